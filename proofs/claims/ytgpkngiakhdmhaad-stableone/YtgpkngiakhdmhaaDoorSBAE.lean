/- The walks over package octet: texts; and over the document's own answers. -/
import Derived.Test.YtgpkngiakhdmhaaDoorSBAA
import Derived.WalkKit
import Derived.Laws.AppendOwnNone
import Derived.Laws.BytesArg
import Derived.Test.YtgpkngiakhdmhaaDoorProg
import Derived.WalkSpells
import Derived.WalkLawsBesides
import Derived.KernelRfl
import Derived.Laws.CopyOwn
namespace Go.Proofs.YtgpkngiakhdmhaaDoor
section
open Go.RowKit Oct
/-- Bytes as cells. -/
def bc (l : List Int) : List Value := l.map (Value.int .u8)
theorem bc_len (l : List Int) : (bc l).length = l.length := by simp [bc]
theorem bc_app (a b : List Int) : bc (a ++ b) = bc a ++ bc b := by simp [bc]
theorem bc_one (l : List Int) : ∀ u ∈ bc l, u.oneCell' = true := ints_oneCell .u8 l
theorem bc_getD (l : List Int) (j : Nat) (h : j < l.length) : (bc l)[j]? = some (.int .u8 (l.getD j 0)) := by
  simp [bc, List.getD, List.getElem?_eq_getElem h]
/-- A slice that reads as the cells xs (each element one cell). -/
def Rdv (w : World) (v : Value) (xs : List Value) : Prop :=
  ∃ ao cap, v = .slice ao xs.length cap ∧ xs.length ≤ cap ∧ cap ≤ maxLen ∧ (ao = none → xs = [] ∧ cap = 0) ∧
    ∀ a, ao = some a → ∀ j u, xs[j]? = some u → w.cell? (a.add j) = some u
/-- A slice of bytes that reads l. -/
def Rd (w : World) (v : Value) (l : List Int) : Prop := Byt l ∧ Rdv w v (bc l)
/-- A slice that lies at the head of a row that may be written (or nil). -/
def Own (w : World) (e : TypeId) (v : Value) (xs : List Value) : Prop := w.ownsRow 0 e 1 v xs.length xs
/-- From block B on. -/
def Fr (B : Nat) (v : Value) : Prop := ∀ k, v.ownBlock = some k → B ≤ k
theorem Fr.mono {B C : Nat} {v : Value} (h : Fr B v) (hc : C ≤ B) : Fr C v := fun k hk => Nat.le_trans hc (h k hk)
theorem Fr.nil (B : Nat) : Fr B (.slice none 0 0) := fun k hk => by simp [Value.ownBlock] at hk
theorem addr_block (a : Addr) (j : Nat) : (a.add j).block = a.block := by unfold Addr.add; split <;> rfl
theorem Rdv.keep {w w' : World} {v : Value} {xs : List Value} (h : Rdv w v xs) (hb : xs ≠ [] → ∀ k, v.ownBlock = some k → k < w.heap.size → w'.heap[k]? = w.heap[k]?) : Rdv w' v xs := by
  obtain ⟨ao, cap, rfl, h1, h2, h3, h4⟩ := h
  refine ⟨ao, cap, rfl, h1, h2, h3, fun a ha j u hu => ?_⟩
  have hc := h4 a ha j u hu
  subst ha
  have hlt := World.block_lt_of_cell? w (a.add j) hc
  rw [addr_block] at hlt
  have e := hb (fun e => by rw [e] at hu; simp at hu) a.block rfl hlt
  rw [← addr_block a j] at e
  exact (World.cell?_of_block (w := w) (w' := w') (a := a.add j) e).trans hc
theorem Rdv.below {w w' : World} {v : Value} {xs : List Value} (h : Rdv w v xs) (hb : Below w.heap.size w w') : Rdv w' v xs :=
  h.keep fun _ k _ hk => hb.block k hk
theorem Rdv.grown {w w' : World} {v : Value} {xs : List Value} {row : Option Nat} (h : Rdv w v xs) (hg : w.grownBy w' row) (hr : xs ≠ [] → ∀ k, row = some k → v.ownBlock ≠ some k) : Rdv w' v xs :=
  h.keep fun hx k hk hlt => hg.block k hlt (fun e => hr hx k e.symm hk)
theorem Rdv.lt {w : World} {v : Value} {xs : List Value} (h : Rdv w v xs) (hx : xs ≠ []) : ∀ k, v.ownBlock = some k → k < w.heap.size := by
  obtain ⟨ao, cap, rfl, h1, h2, h3, h4⟩ := h
  intro k hk
  cases ao with
  | none => simp [Value.ownBlock] at hk
  | some a =>
    simp [Value.ownBlock] at hk
    subst hk
    cases xs with
    | nil => exact absurd rfl hx
    | cons x r =>
      have hc := h4 a rfl 0 x rfl
      have := World.block_lt_of_cell? w (a.add 0) hc
      rwa [addr_block] at this
theorem Rd.below {w w' : World} {v : Value} {l : List Int} (h : Rd w v l) (hb : Below w.heap.size w w') : Rd w' v l := ⟨h.1, h.2.below hb⟩
theorem Rd.grown {w w' : World} {v : Value} {l : List Int} {row : Option Nat} (h : Rd w v l) (hg : w.grownBy w' row) (hr : l ≠ [] → ∀ k, row = some k → v.ownBlock ≠ some k) : Rd w' v l :=
  ⟨h.1, h.2.grown hg fun hx => hr fun e => hx (by rw [e]; rfl)⟩
theorem Rd.lt {w : World} {v : Value} {l : List Int} (h : Rd w v l) (hx : l ≠ []) : ∀ k, v.ownBlock = some k → k < w.heap.size := h.2.lt fun e => hx (by simpa [bc] using e)
theorem Own.lt {w : World} {e : TypeId} {v : Value} {xs : List Value} (h : Own w e v xs) : ∀ k, v.ownBlock = some k → k < w.heap.size := fun k hk => (World.ownsRow.lt h k hk).2
theorem Own.below {w w' : World} {e : TypeId} {v : Value} {xs : List Value} (h : Own w e v xs) (hb : Below w.heap.size w w') : Own w' e v xs :=
  World.ownsRow.kept (row := none) h ⟨hb.os, hb.tape, hb.output, hb.size, fun k hk _ => hb.block k hk⟩ (by cases hv : v.ownBlock <;> simp)
theorem Own.grown {w w' : World} {e : TypeId} {v : Value} {xs : List Value} {row : Option Nat} (h : Own w e v xs) (hg : w.grownBy w' row) (hr : ∀ k, row = some k → v.ownBlock ≠ some k) : Own w' e v xs :=
  World.ownsRow.kept h hg (by
    cases hv : v.ownBlock with
    | none => exact .inl rfl
    | some k => exact .inr fun e => hr k e.symm hv)
theorem Own.rdv {w : World} {e : TypeId} {v : Value} {xs : List Value} (h : Own w e v xs) : Rdv w v xs := by
  rcases h.2 with ⟨rfl, h0⟩ | ⟨g, cap, cur, rfl, _, hg, h1, h2, h3, h4⟩
  · have : xs = [] := List.eq_nil_of_length_eq_zero h0
    subst this
    exact ⟨none, 0, rfl, Nat.le_refl _, Nat.zero_le _, fun _ => ⟨rfl, rfl⟩, fun a ha => by cases ha⟩
  · exact ⟨some ⟨g, 0, none⟩, cap, rfl, h1, h2, fun ha => (by cases ha), fun a ha j u hu => by cases ha; exact World.ownsRow.cells h (g := g) rfl j u hu⟩
theorem Own.rd {w : World} {e : TypeId} {v : Value} {l : List Int} (h : Own w e v (bc l)) (hb : Byt l) : Rd w v l := ⟨hb, h.rdv⟩
theorem Own.form {w : World} {e : TypeId} {v : Value} {xs : List Value} (h : Own w e v xs) : ∃ ao cap, v = .slice ao xs.length cap ∧ cap ≤ maxLen := by
  obtain ⟨ao, cap, h1, _, h2, _⟩ := h.rdv
  exact ⟨ao, cap, h1, h2⟩
/-- Rows of unlike elements are unlike rows. -/
theorem Own.apart {w : World} {e e' : TypeId} {v v' : Value} {xs xs' : List Value} (h : Own w e v xs) (h' : Own w e' v' xs') (he : e ≠ e') : ∀ k, v.ownBlock = some k → v'.ownBlock ≠ some k := by
  intro k hk hk'
  rcases h.2 with ⟨rfl, _⟩ | ⟨g, _, cur, rfl, _, hg, _⟩
  · simp [Value.ownBlock] at hk
  rcases h'.2 with ⟨rfl, _⟩ | ⟨g', _, cur', rfl, _, hg', _⟩
  · simp [Value.ownBlock] at hk'
  simp [Value.ownBlock] at hk hk'
  subst hk hk'
  rw [hg] at hg'
  simp at hg'
  exact he hg'.2
theorem Own.nil (w : World) (e : TypeId) : Own w e (.slice none 0 0) [] := World.ownsRow_nil w 0 e 1
theorem grown_below {w w' : World} {row : Option Nat} (hg : w.grownBy w' row) {B : Nat} (hB : B ≤ w.heap.size) (hr : ∀ k, row = some k → B ≤ k) : Below B w w' :=
  (Below.refl B w).grown hg hB hr
/-- One thing behind the other: what the second may write is what the first may write, or new. -/
theorem grown_trans {w w1 w2 : World} {r r1 : Option Nat} (h : w.grownBy w1 r) (h' : w1.grownBy w2 r1) (hr : r1 = r ∨ ∀ k, r1 = some k → w.heap.size ≤ k) : w.grownBy w2 r :=
  ⟨h'.os.trans h.os, h'.tape.trans h.tape, h'.output.trans h.output, Nat.le_trans h.size h'.size, fun k hk hne => by
    have := h.size
    refine (h'.block k (by omega) fun e => ?_).trans (h.block k hk hne)
    rcases hr with rfl | hr
    · exact hne e
    · have := hr k e.symm; omega⟩
theorem grown_of_below {w w' : World} (h : Below w.heap.size w w') (r : Option Nat) : w.grownBy w' r := ⟨h.os, h.tape, h.output, h.size, fun k hk _ => h.block k hk⟩
/-- What an append does: v' reads xs; of what was there only v's own row may have turned; v' lies in that row or in new memory. -/
structure App (w : World) (e : TypeId) (v : Value) (w' : World) (v' : Value) (xs : List Value) : Prop where
  own : Own w' e v' xs
  grown : w.grownBy w' v.ownBlock
  spot : v'.ownBlock = v.ownBlock ∨ Fr w.heap.size v'
theorem App.trans {w w1 w2 : World} {e : TypeId} {v v1 v2 : Value} {xs ys : List Value} (h : App w e v w1 v1 xs) (h' : App w1 e v1 w2 v2 ys) : App w e v w2 v2 ys :=
  ⟨h'.own, grown_trans h.grown h'.grown (by rcases h.spot with h1 | h1; exact .inl h1; exact .inr h1), by
    have hs := h.grown.size
    rcases h'.spot with h2 | h2
    · rcases h.spot with h1 | h1
      · exact .inl (h2.trans h1)
      · exact .inr fun k hk => h1 k (h2 ▸ hk)
    · exact .inr (h2.mono hs)⟩
/-- New blocks between. -/
theorem App.pre {w w0 w' : World} {e : TypeId} {v v' : Value} {xs : List Value} (hb : Below w.heap.size w w0) (h : App w0 e v w' v' xs) : App w e v w' v' xs :=
  ⟨h.own, grown_trans (grown_of_below hb _) h.grown (.inl rfl), by
    rcases h.spot with h1 | h1
    · exact .inl h1
    · exact .inr (h1.mono hb.size)⟩
theorem App.fr {w w' : World} {e : TypeId} {v v' : Value} {xs : List Value} (h : App w e v w' v' xs) {B : Nat} (hv : Fr B v) (hB : B ≤ w.heap.size) : Fr B v' := by
  rcases h.spot with h1 | h1
  · exact fun k hk => hv k (h1 ▸ hk)
  · exact h1.mono hB
theorem App.below {w w' : World} {e : TypeId} {v v' : Value} {xs : List Value} (h : App w e v w' v' xs) {B : Nat} (hv : Fr B v) (hB : B ≤ w.heap.size) : Below B w w' :=
  grown_below h.grown hB hv
theorem owns_base {w : World} {base : Nat} {e : TypeId} {v : Value} {n : Nat} {xs : List Value} (h : w.ownsRow base e 1 v n xs) : w.ownsRow 0 e 1 v n xs :=
  ⟨h.1, by rcases h.2 with h | ⟨g, cap, cur, h1, _, h2⟩; exact .inl h; exact .inr ⟨g, cap, cur, h1, Nat.zero_le _, h2⟩⟩
/-- A slice that is not empty lies at a plain address. -/
theorem Rdv.at {w : World} {v : Value} {xs : List Value} (h : Rdv w v xs) (hl : 0 < xs.length) : ∃ b off cap, v = .slice (some ⟨b, off, none⟩) xs.length cap ∧ xs.length ≤ cap ∧ cap ≤ maxLen ∧ b < w.heap.size ∧
    ∀ (j : Nat) (u : Value), xs[j]? = some u → w.cell? ⟨b, off + j, none⟩ = some u := by
  obtain ⟨ao, cap, rfl, h1, h2, h3, h4⟩ := h
  cases ao with
  | none => have := (h3 rfl).1; subst this; simp at hl
  | some a =>
    obtain ⟨b, off, spot⟩ := a
    have hc := h4 _ rfl 0 _ (List.getElem?_eq_getElem hl)
    have hs : spot = none := by
      cases spot with
      | none => rfl
      | some q =>
        exfalso
        simp only [Addr.add, if_true, World.cell?] at hc
        split at hc <;> simp at hc
    subst hs
    refine ⟨b, off, cap, rfl, h1, h2, World.block_lt_of_cell? w _ hc, fun j u hj => ?_⟩
    have := h4 _ rfl j u hj
    have e : (⟨b, off, none⟩ : Addr).add j = ⟨b, off + j, none⟩ := by unfold Addr.add; split <;> simp_all
    rwa [e] at this
theorem Rdv.form {w : World} {v : Value} {xs : List Value} (h : Rdv w v xs) : ∃ ao cap, v = .slice ao xs.length cap ∧ cap ≤ maxLen := by
  obtain ⟨ao, cap, h1, _, h2, _⟩ := h
  exact ⟨ao, cap, h1, h2⟩
/-- A slice of bytes that is not empty lies at a plain address. -/
theorem Rd.at {w : World} {v : Value} {l : List Int} (h : Rd w v l) (hl : 0 < l.length) : ∃ b off cap, v = .slice (some ⟨b, off, none⟩) l.length cap ∧ l.length ≤ cap ∧ cap ≤ maxLen ∧ b < w.heap.size ∧
    ∀ j, j < l.length → w.cell? ⟨b, off + j, none⟩ = some (.int .u8 (l.getD j 0)) := by
  obtain ⟨hb, ao, cap, rfl, h1, h2, h3, h4⟩ := h
  rw [bc_len] at h1
  cases ao with
  | none => have := (h3 rfl).1; simp [bc] at this; subst this; simp at hl
  | some a =>
    obtain ⟨b, off, spot⟩ := a
    have hc := h4 _ rfl 0 _ (bc_getD l 0 hl)
    have hs : spot = none := by
      cases spot with
      | none => rfl
      | some q =>
        exfalso
        simp only [Addr.add, if_true, World.cell?] at hc
        split at hc <;> simp at hc
    subst hs
    refine ⟨b, off, cap, by rw [bc_len], h1, h2, World.block_lt_of_cell? w _ hc, fun j hj => ?_⟩
    have := h4 _ rfl j _ (bc_getD l j hj)
    have e : (⟨b, off, none⟩ : Addr).add j = ⟨b, off + j, none⟩ := by unfold Addr.add; split <;> simp_all
    rwa [e] at this
/-- An empty one: whatever its address. -/
theorem Rd.empty {w : World} {v : Value} {l : List Int} (h : Rd w v l) (hl : l.length = 0) : ∃ ao cap, v = .slice ao 0 cap ∧ cap ≤ maxLen := by
  obtain ⟨hb, ao, cap, rfl, h1, h2, h3, h4⟩ := h
  exact ⟨ao, cap, by rw [bc_len, hl], h2⟩
theorem Rd.len {w : World} {v : Value} {l : List Int} (h : Rd w v l) : (l.length : Int) ≤ 9223372036854775807 := by
  obtain ⟨hb, ao, cap, rfl, h1, h2, h3, h4⟩ := h
  rw [bc_len] at h1
  unfold maxLen at h2
  omega
/-- One by one. -/
def All2 {α β : Type} (R : α → β → Prop) : List α → List β → Prop
  | [], [] => True
  | a :: as0, b :: bs => R a b ∧ All2 R as0 bs
  | _, _ => False
theorem All2.len {α β : Type} {R : α → β → Prop} : ∀ {as0 : List α} {bs : List β}, All2 R as0 bs → as0.length = bs.length
  | [], [], _ => rfl
  | _ :: _, _ :: _, h => by simp [All2.len h.2]
  | [], _ :: _, h => h.elim
  | _ :: _, [], h => h.elim
theorem All2.of_get {α β : Type} {R : α → β → Prop} : ∀ {as0 : List α} {bs : List β}, as0.length = bs.length → (∀ (i : Nat) (a : α) (b : β), as0[i]? = some a → bs[i]? = some b → R a b) → All2 R as0 bs
  | [], [], _, _ => trivial
  | a :: as0, b :: bs, hl, h => ⟨h 0 a b rfl rfl, All2.of_get (by simpa using hl) fun i x y hx hy => h (i + 1) x y (by simpa using hx) (by simpa using hy)⟩
  | [], _ :: _, hl, _ => by simp at hl
  | _ :: _, [], hl, _ => by simp at hl
theorem All2.get {α β : Type} {R : α → β → Prop} : ∀ {as0 : List α} {bs : List β}, All2 R as0 bs → ∀ {i : Nat} {a : α} {b : β}, as0[i]? = some a → bs[i]? = some b → R a b
  | [], [], _, i, a, b, ha, _ => by simp at ha
  | x :: as0, y :: bs, h, 0, a, b, ha, hb => by simp at ha hb; subst ha hb; exact h.1
  | x :: as0, y :: bs, h, i + 1, a, b, ha, hb => All2.get h.2 (by simpa using ha) (by simpa using hb)
  | [], _ :: _, h, _, _, _, _, _ => h.elim
  | _ :: _, [], h, _, _, _, _, _ => h.elim
theorem All2.mono {α β : Type} {R S : α → β → Prop} (hRS : ∀ a b, R a b → S a b) : ∀ {as0 : List α} {bs : List β}, All2 R as0 bs → All2 S as0 bs
  | [], [], _ => trivial
  | _ :: _, _ :: _, h => ⟨hRS _ _ h.1, All2.mono hRS h.2⟩
  | [], _ :: _, h => h.elim
  | _ :: _, [], h => h.elim
theorem All2.app {α β : Type} {R : α → β → Prop} : ∀ {as0 : List α} {bs : List β} {cs : List α} {ds : List β}, All2 R as0 bs → All2 R cs ds → All2 R (as0 ++ cs) (bs ++ ds)
  | [], [], _, _, _, h => h
  | _ :: _, _ :: _, _, _, h, h' => ⟨h.1, All2.app h.2 h'⟩
  | [], _ :: _, _, _, h, _ => h.elim
  | _ :: _, [], _, _, h, _ => h.elim
/-- A list of texts that reads ll. -/
def Rdl (w : World) (v : Value) (ll : List (List Int)) : Prop := ∃ vs, Rdv w v vs ∧ All2 (Rd w) vs ll
theorem Rdl.below {w w' : World} {v : Value} {ll : List (List Int)} (h : Rdl w v ll) (hb : Below w.heap.size w w') : Rdl w' v ll := by
  obtain ⟨vs, h1, h2⟩ := h
  exact ⟨vs, h1.below hb, h2.mono fun _ _ h => h.below hb⟩
theorem rdv_one (w : World) (x : Int) (e : TypeId) : Rdv (w.alloc (.cells #[.int .u8 x] e)) (.slice (some ⟨w.heap.size, 0, none⟩) 1 1) (bc [x]) :=
  Own.rdv (e := e) (World.ownsRow_lit (base := 0) (size := 1) w #[.int .u8 x] 1 (Nat.zero_le _) (by decide) rfl)
section
variable {P : Program}
theorem run_app (w : World) (t ty e : TypeId) (i : TypeInfo) (z : Value) (bytes : Nat) (ht : P.underlying t = some (.slice e)) (hi : P.info? e = some i) (hz : i.zero = some z)
    (hsize : i.size = 1) (hby : i.bytes = bytes) (hzs : z.cells.size = 1) (v : Value) (xs : List Value) (hown : Own w e v xs) (sv : Value) (news : List Value) (hsrc : Rdv w sv news)
    (h1 : ∀ u ∈ news, u.oneCell' = true) (hm : xs.length + news.length ≤ maxLen) (hb : (xs.length + news.length) * bytes ≤ 140737488355328) :
    ∃ v' w', (Builtin.append_ #[t, t] ty #[v, sv]).run P w = .ok v' w' ∧ App w e v w' v' (xs ++ news) := by
  obtain ⟨ao, cap, rfl, c1, c2, c3, c4⟩ := hsrc
  cases ao with
  | none =>
    obtain ⟨rfl, rfl⟩ := c3 rfl
    refine ⟨v, w, run_append_owned_none (P := P) w 0 t ty e i 1 ht hi v _ xs hown, ?_⟩
    rw [List.append_nil]
    exact ⟨hown, grown_of_below (Below.refl _ _) _, .inl rfl⟩
  | some a =>
    have hnews := c4 a rfl
    have hl : news.length = news.length * 1 := by omega
    rcases hown.2 with ⟨rfl, h0⟩ | ⟨g, vc, cur, rfl, _, hg, n1, n2, n3, n4⟩
    · have hx : xs = [] := List.eq_nil_of_length_eq_zero h0
      subst hx
      obtain ⟨v', w', hr, o1, o2, _⟩ := run_append_own (P := P) w w.heap.size t ty e i z 1 bytes ht hi hz hsize hby hzs (by decide) (.slice none 0 0) 0 [] (World.ownsRow_nil w w.heap.size e 1) a news.length cap news hl hnews h1
        (by simpa using hm) (by simpa using hb) (Nat.le_refl _)
      refine ⟨v', w', hr, ?_⟩
      have o3 := owns_base o1
      rw [Nat.zero_add, List.nil_append] at o3
      exact ⟨o3, o2, .inr fun k hk => (o1.lt k hk).1⟩
    · obtain ⟨v', w', hr, o1, o2, _⟩ := run_append_own (P := P) w 0 t ty e i z 1 bytes ht hi hz hsize hby hzs (by decide) _ _ xs hown a news.length cap news hl hnews h1 hm hb (Nat.zero_le _)
      refine ⟨v', w', hr, ?_⟩
      rw [← List.length_append] at o1
      refine ⟨o1, o2, ?_⟩
      by_cases hroom : xs.length + news.length ≤ vc
      · left
        have hr2 := run_append_room (P := P) w t ty e i ht hi g xs.length vc cur hg a news.length cap news (by rw [hsize]; exact hl) hnews h1 hroom (by rw [hsize, n3]; omega)
        rw [hr2] at hr
        injection hr with e1 _
        rw [← e1]
        rfl
      · right
        have holds : ∀ j u, xs[j]? = some u → w.cell? ((⟨g, 0, none⟩ : Addr).add j) = some u := World.ownsRow.cells hown (g := g) rfl
        have hr2 := run_append_grow (P := P) w t ty e i z ht hi hz ⟨g, 0, none⟩ xs.length vc xs (by rw [hsize]; omega) holds a news.length cap news (by rw [hsize]; exact hl) hnews (by omega)
          (by have := hm; simp only [maxLen] at this; omega) (growslice_fits (by omega) (by rw [hby]; exact hb))
        rw [hr2] at hr
        injection hr with e1 _
        rw [← e1]
        intro k hk
        simp [Value.ownBlock] at hk
        omega
/-- An operation that is carried out: it has no guard, or its guard says yes. -/
theorem wpList_wanted {ops : Array Oper} {Q : Exit → Act → World → Prop} {a : Act} {w : World} {rest : List Oper} {o : Oper} (hw : Region.wanted o (yielded ops a.tmps) = true)
    (h : ∀ K : Act → World → Prop, (∀ a w, wpList P ops Q rest a w → K a w) → o.wp P a w K Q) : wpList P ops Q (o :: rest) a w :=
  wpList_step fun K hK => by rw [if_pos hw]; exact h K hK
theorem wanted_none {ops : Array Oper} {a : Act} {o : Oper} (hgd : o.guard = none) : Region.wanted o (yielded ops a.tmps) = true := by simp [Region.wanted, hgd]
/-- THE LAW FOR THE WALK: 's = append(s, x...)', s the call's own, x whatever can be read. -/
theorem wpList_app {w : World} {ops : Array Oper} {rest : List Oper} {o : Oper} {a : Act} {Q : Exit → Act → World → Prop} (hgd : Region.wanted o (yielded ops a.tmps) = true) (s x : Operand) (t : TypeId)
    (ho : o.op = .call { callee := .builtin .append, args := #[s, x], argTypes := #[t, t] })
    (e : TypeId) (i : TypeInfo) (z : Value) (bytes : Nat) (ht : P.underlying t = some (.slice e)) (hi : P.info? e = some i) (hz : i.zero = some z)
    (hsize : i.size = 1) (hby : i.bytes = bytes) (hzs : z.cells.size = 1) (v : Value) (xs : List Value) (hs : a.eval s = v) (hown : Own w e v xs) (sv : Value) (news : List Value) (hx : a.eval x = sv) (hsrc : Rdv w sv news)
    (h1 : ∀ u ∈ news, u.oneCell' = true) (hm : xs.length + news.length ≤ maxLen) (hb : (xs.length + news.length) * bytes ≤ 140737488355328)
    (h : ∀ v' w', App w e v w' v' (xs ++ news) → wpList P ops Q rest (a.put o.dst v') w') : wpList P ops Q (o :: rest) a w := by
  refine wpList_wanted hgd fun K hK => ?_
  obtain ⟨v', w', hr, h2⟩ := run_app (P := P) w t o.type e i z bytes ht hi hz hsize hby hzs v xs hown sv news hsrc h1 hm hb
  unfold Oper.wp
  simp [execOp, ho, resolve, invoke, builtin, hs, hx, hr, Result.andThen]
  exact hK _ _ (h v' w' h2)
/-- The same at an operation, and at a step of a region that draws its order. -/
theorem wp_app {w : World} {o : Oper} {a : Act} {K : Act → World → Prop} {Q : Exit → Act → World → Prop} (s x : Operand) (t : TypeId)
    (ho : o.op = .call { callee := .builtin .append, args := #[s, x], argTypes := #[t, t] })
    (e : TypeId) (i : TypeInfo) (z : Value) (bytes : Nat) (ht : P.underlying t = some (.slice e)) (hi : P.info? e = some i) (hz : i.zero = some z)
    (hsize : i.size = 1) (hby : i.bytes = bytes) (hzs : z.cells.size = 1) (v : Value) (xs : List Value) (hs : a.eval s = v) (hown : Own w e v xs) (sv : Value) (news : List Value) (hx : a.eval x = sv) (hsrc : Rdv w sv news)
    (h1 : ∀ u ∈ news, u.oneCell' = true) (hm : xs.length + news.length ≤ maxLen) (hb : (xs.length + news.length) * bytes ≤ 140737488355328)
    (h : ∀ v' w', App w e v w' v' (xs ++ news) → K (a.put o.dst v') w') : o.wp P a w K Q := by
  obtain ⟨v', w', hr, h2⟩ := run_app (P := P) w t o.type e i z bytes ht hi hz hsize hby hzs v xs hown sv news hsrc h1 hm hb
  unfold Oper.wp
  simp [execOp, ho, resolve, invoke, builtin, hs, hx, hr, Result.andThen]
  exact h v' w' h2
end
theorem Own.drew {w : World} {e : TypeId} {v : Value} {xs : List Value} (h : Own w e v xs) : Own w.drew e v xs := h
theorem Rdv.drew {w : World} {v : Value} {xs : List Value} (h : Rdv w v xs) : Rdv w.drew v xs := h
theorem Rd.drew {w : World} {v : Value} {l : List Int} (h : Rd w v l) : Rd w.drew v l := h
#print axioms wpList_app
end
section
open Go.RowKit Oct
theorem Tryd.info5 : (Tryd.prog.info? 5).map (fun i => (i.zero, i.size, i.bytes)) = some (some (.int .u8 0), 1, 1) := by kernel_rfl
/-- 'append(s, x...)' of bytes, at this program. -/
theorem app_bytes_w {w : World} {ops : Array Oper} {rest : List Oper} {o : Oper} {a : Act} {Q : Exit → Act → World → Prop} (hgd : Region.wanted o (yielded ops a.tmps) = true) (s x : Operand)
    (ho : o.op = .call { callee := .builtin .append, args := #[s, x], argTypes := #[26, 26] })
    (v : Value) (l : List Int) (hs : a.eval s = v) (hown : Own w 5 v (bc l)) (sv : Value) (m : List Int) (hx : a.eval x = sv) (hsrc : Rdv w sv (bc m)) (hb : l.length + m.length ≤ 140737488355328)
    (h : ∀ v' w', App w 5 v w' v' (bc (l ++ m)) → wpList Tryd.prog ops Q rest (a.put o.dst v') w') : wpList Tryd.prog ops Q (o :: rest) a w := by
  obtain ⟨i0, hi, hz0, hz1, hz2⟩ := info_parts Tryd.info5
  refine wpList_app hgd s x 26 ho 5 i0 (.int .u8 0) 1 Tryd.underlying26 hi hz0 hz1 hz2 rfl v (bc l) hs hown sv (bc m) hx hsrc (bc_one _) (by rw [bc_len, bc_len]; unfold maxLen; omega) (by rw [bc_len, bc_len]; omega) ?_
  rw [← bc_app]
  exact h
theorem app_bytes {w : World} {ops : Array Oper} {rest : List Oper} {o : Oper} {a : Act} {Q : Exit → Act → World → Prop} (hgd : o.guard = none) (s x : Operand)
    (ho : o.op = .call { callee := .builtin .append, args := #[s, x], argTypes := #[26, 26] })
    (v : Value) (l : List Int) (hs : a.eval s = v) (hown : Own w 5 v (bc l)) (sv : Value) (m : List Int) (hx : a.eval x = sv) (hsrc : Rdv w sv (bc m)) (hb : l.length + m.length ≤ 140737488355328)
    (h : ∀ v' w', App w 5 v w' v' (bc (l ++ m)) → wpList Tryd.prog ops Q rest (a.put o.dst v') w') : wpList Tryd.prog ops Q (o :: rest) a w :=
  app_bytes_w (wanted_none hgd) s x ho v l hs hown sv m hx hsrc hb h
theorem app_start {w : World} {e : TypeId} {v : Value} {xs : List Value} (h : Own w e v xs) : App w e v w v xs := ⟨h, grown_of_below (Below.refl _ _) _, .inl rfl⟩
theorem ret_int {k : IntKind} {a b : Int} (h : a = b) : Ending.returned (.int k a) = .returned (.int k b) := by rw [h]
theorem below_alloc (w : World) (o : Obj) : Below w.heap.size w (w.alloc o) := (Below.refl _ _).alloc (Nat.le_refl _) o
theorem own_zero (w : World) (e : TypeId) : Own (w.alloc (.cells #[] e)) e (.slice (some ⟨w.heap.size, 0, none⟩) 0 0) (bc []) :=
  World.ownsRow_lit (base := 0) (size := 1) w #[] 0 (Nat.zero_le _) (by decide) rfl
theorem fr_at (B g n c : Nat) (h : B ≤ g) : Fr B (.slice (some ⟨g, 0, none⟩) n c) := fun k hk => by simp [Value.ownBlock] at hk; omega
/-- 'append([]byte{}, x...)': a copy. -/
theorem app_copy_w {w : World} {ops : Array Oper} {rest : List Oper} {o : Oper} {a : Act} {Q : Exit → Act → World → Prop} (hgd : Region.wanted o (yielded ops a.tmps) = true) (s x : Operand)
    (ho : o.op = .call { callee := .builtin .append, args := #[s, x], argTypes := #[26, 26] })
    (hs : a.eval s = .slice (some ⟨w.heap.size, 0, none⟩) 0 0) (sv : Value) (m : List Int) (hx : a.eval x = sv) (hsrc : Rd w sv m) (hb : m.length ≤ 140737488355328)
    (h : ∀ v' w', Own w' 5 v' (bc m) → Fr w.heap.size v' → Below w.heap.size w w' → wpList Tryd.prog ops Q rest (a.put o.dst v') w') : wpList Tryd.prog ops Q (o :: rest) a (w.alloc (.cells #[] 5)) := by
  refine app_bytes_w hgd s x ho (.slice (some ⟨w.heap.size, 0, none⟩) 0 0) [] hs (own_zero w 5) sv m hx (hsrc.below (below_alloc w _)).2 (by simp only [List.length_nil]; omega) ?_
  intro v' w' happ
  rw [List.nil_append] at happ
  have hp := happ.pre (below_alloc w _)
  exact h v' w' hp.own (happ.fr (fr_at _ _ _ _ (Nat.le_refl _)) (by simp)) ((below_alloc w _).trans (happ.below (fr_at _ _ _ _ (Nat.le_refl _)) (by simp)))
theorem app_copy {w : World} {ops : Array Oper} {rest : List Oper} {o : Oper} {a : Act} {Q : Exit → Act → World → Prop} (hgd : o.guard = none) (s x : Operand)
    (ho : o.op = .call { callee := .builtin .append, args := #[s, x], argTypes := #[26, 26] })
    (hs : a.eval s = .slice (some ⟨w.heap.size, 0, none⟩) 0 0) (sv : Value) (m : List Int) (hx : a.eval x = sv) (hsrc : Rd w sv m) (hb : m.length ≤ 140737488355328)
    (h : ∀ v' w', Own w' 5 v' (bc m) → Fr w.heap.size v' → Below w.heap.size w w' → wpList Tryd.prog ops Q rest (a.put o.dst v') w') : wpList Tryd.prog ops Q (o :: rest) a (w.alloc (.cells #[] 5)) :=
  app_copy_w (wanted_none hgd) s x ho hs sv m hx hsrc hb h
/-- Two stretches of a run, one behind the other. -/
theorem below_and {B : Nat} {w w1 w2 : World} (h : Below B w w1) (hB : B ≤ w.heap.size) (h' : Below w1.heap.size w1 w2) : Below B w w2 := h.trans (h'.mono (Nat.le_trans hB h.size))
set_option maxHeartbeats 400000 in
theorem appendInt_any (w : World) (v : Value) (l : List Int) (n : Int) (hown : Own w 5 v (bc l)) (h0 : 0 ≤ n) (h1 : n ≤ 9223372036854775807) (hl : l.length ≤ 140737488355300) :
    Calls Tryd.prog 75 #[v, .int .i64 n] w fun e w' => ∃ v', e = .returned v' ∧ App w 5 v w' v' (bc (l ++ enc n)) := by
  go_enter Tryd.func75, Tryd.ntmps75
  go_wp2_with fail
  go_loopw [0, 1] (fun s m wr => ∃ (q : Int) (done : List Int), 0 ≤ q ∧ q ≤ n ∧ m = .int .i64 q ∧ done ++ enc q = l ++ enc n ∧ App w 5 v wr s (bc done)) (fun _ m _ => (intOf m).toNat)
  case atStart => exact ⟨n, l, h0, Int.le_refl _, rfl, rfl, app_start hown⟩
  case round =>
    obtain ⟨q, done, hq0, hq1, rfl, hd, happ⟩ := hrel
    have hdl : done.length ≤ l.length + 10 := by
      have h2 := congrArg List.length hd
      have h3 := enc_len q
      have h4 := enc_len n
      simp only [List.length_append] at h2
      omega
    have HD := (show Hid (done ++ enc q = l ++ enc n) from hd)
    clear hd
    by_cases hq : 128 ≤ q
    · go_wp2_with (at_builtin; refine app_bytes rfl _ _ rfl u0 done rfl (World.ownsRow.alloc happ.own _) _ [q % 128 + 128] rfl (rdv_one wr _ _) (by simp only [List.length_cons, List.length_nil]; omega) ?_; intro v1 w1 happ1)
      go_roundw
      case rel => exact ⟨q / 128, done ++ [q % 128 + 128], by omega, by omega, rfl, by rw [List.append_assoc, List.singleton_append, ← enc_great q hq (by omega)]; exact HD.out, happ.trans (happ1.pre (below_alloc _ _))⟩
      case measure => simp [intOf]; omega
    · go_wp2_with (at_builtin; refine app_bytes rfl _ _ rfl u0 done rfl (World.ownsRow.alloc happ.own _) _ [q] rfl (rdv_one wr _ _) (by simp only [List.length_cons, List.length_nil]; omega) ?_; intro v1 w1 happ1)
      go_ret
      refine ⟨_, rfl, ?_⟩
      rw [← HD.out, enc_small q (by omega)]
      exact happ.trans (happ1.pre (below_alloc _ _))
/-- octet.Int. -/
theorem int_any (w : World) (n : Int) :
    Calls Tryd.prog 68 #[.int .i64 n] w fun e w' => ∃ v, e = .returned (.tuple #[v, .int .i64 (errI n)]) ∧ Own w' 5 v (bc (outI n)) ∧ Fr w.heap.size v ∧ Below w.heap.size w w' := by
  by_cases h0 : n < 0
  · have e1 := errI_no (.inl h0)
    have e2 := outI_no (.inl h0)
    rw [e1, e2]
    clear e1 e2
    go_enter Tryd.func68, Tryd.ntmps68
    go_wp2_with fail
    go_ret2
    exact ⟨_, rfl, Own.nil _ _, Fr.nil _, Below.refl _ _⟩
  by_cases h1 : 2147483647 < n
  · have e1 := errI_no (.inr h1)
    have e2 := outI_no (.inr h1)
    rw [e1, e2]
    clear e1 e2
    go_enter Tryd.func68, Tryd.ntmps68
    go_wp2_with fail
    go_ret2
    exact ⟨_, rfl, Own.nil _ _, Fr.nil _, Below.refl _ _⟩
  · rw [errI_yes (by omega) (by omega), outI_yes (by omega) (by omega)]
    go_enter Tryd.func68, Tryd.ntmps68
    go_wp2_with (go_at_call 75; refine (appendInt_any _ (.slice none 0 0) [] n (Own.nil _ _) (by omega) (by omega) (by simp)).mono ?_; rintro e w' ⟨v', rfl, happ⟩)
    go_ret2
    rw [List.nil_append] at happ
    exact ⟨_, rfl, happ.own, happ.fr (Fr.nil _) (Nat.le_refl _), happ.below (Fr.nil _) (Nat.le_refl _)⟩
/-- A part of a slice of bytes. -/
theorem Rd.part {w : World} {b off : Nat} {l : List Int} (hb : Byt l) (hc : ∀ j, j < l.length → w.cell? ⟨b, off + j, none⟩ = some (.int .u8 (l.getD j 0)))
    (lo n : Nat) (h : lo + n ≤ l.length) (c : Nat) (hc1 : n ≤ c) (hc2 : c ≤ maxLen) : Rd w (.slice (some ⟨b, off + lo, none⟩) n c) ((l.drop lo).take n) := by
  have hlen : (bc ((l.drop lo).take n)).length = n := by rw [bc_len, List.length_take, List.length_drop]; omega
  refine ⟨(hb.drop _).take _, some ⟨b, off + lo, none⟩, c, by rw [hlen], by rw [hlen]; exact hc1, hc2, fun e => (by cases e), fun a ha j u hu => ?_⟩
  cases ha
  have hj : j < n := by
    rcases Nat.lt_or_ge j n with h | h
    · exact h
    · rw [List.getElem?_eq_none (by omega)] at hu; cases hu
  have e : (⟨b, off + lo, none⟩ : Addr).add j = ⟨b, off + (lo + j), none⟩ := by unfold Addr.add; split <;> simp_all [Nat.add_assoc]
  rw [e, hc (lo + j) (by omega)]
  rw [bc_getD _ _ (by rw [List.length_take, List.length_drop]; omega)] at hu
  rw [← hu]
  simp [List.getD, hj]
/-- Two texts are the same just if their bytes are. -/
theorem str_eq {a b : List Int} (ha : Byt a) (hb : Byt b) : ((strOfNums a).toList == (strOfNums b).toList) = decide (a = b) := by
  rw [Bool.eq_iff_iff]
  simp only [beq_iff_eq, decide_eq_true_eq]
  refine ⟨fun h1 => ?_, fun h => by rw [h]⟩
  rw [ByteArray.toList_eq, ByteArray.toList_eq, strOfNums_data, strOfNums_data] at h1
  induction a generalizing b with
  | nil => cases b with
    | nil => rfl
    | cons y b => simp at h1
  | cons x a ih => cases b with
    | nil => simp at h1
    | cons y b =>
      simp only [List.map_cons, List.cons.injEq] at h1
      have hx := ha x (by simp)
      have hy := hb y (by simp)
      have e := congrArg UInt8.toNat h1.1
      simp at e
      rw [ih (fun z hz => ha z (by simp [hz])) (fun z hz => hb z (by simp [hz])) h1.2]
      congr 1
      omega
/-- What 'string(b)' makes of a slice of bytes. -/
theorem run_str {w : World} {v : Value} {l : List Int} (h : Rd w v l) : (convert 26 9 v).run Tryd.prog w = .ok (.string (strOfNums l)) w := by
  by_cases hl : 0 < l.length
  · obtain ⟨b, off, cap, rfl, hc1, hc2, hb, hcell⟩ := h.at hl
    exact run_convert_bytes_arg w 26 5 Tryd.underlying26 Tryd.underlying5 b off l.length cap l rfl hcell 9 Tryd.underlying9
  · have hl0 : l = [] := List.eq_nil_of_length_eq_zero (by omega)
    subst hl0
    obtain ⟨ao, cap, rfl, hc⟩ := h.empty rfl
    have e : strOfNums [] = ByteArray.empty := rfl
    rw [e]
    cases ao with
    | none => exact run_convert_bytes_nil w 26 5 Tryd.underlying26 Tryd.underlying5 0 cap 9 Tryd.underlying9
    | some a =>
      rw [run_convert_bytes_string w 26 9 5 (some a) 0 cap Tryd.underlying26 Tryd.underlying5 Tryd.underlying9, run_bytesToString w a 0 cap [] (by simp [loadCells, loadCellsFrom])]
      rfl
end
section
open Go.RowKit Oct
theorem own_one (w : World) (x : Int) (e : TypeId) : Own (w.alloc (.cells #[.int .u8 x] e)) e (.slice (some ⟨w.heap.size, 0, none⟩) 1 1) (bc [x]) :=
  World.ownsRow_lit (base := 0) (size := 1) w #[.int .u8 x] 1 (Nat.zero_le _) (by decide) rfl
end
section
open Go.RowKit Oct
theorem Rd.form {w : World} {v : Value} {l : List Int} (h : Rd w v l) : ∃ ao cap, v = .slice ao l.length cap ∧ cap ≤ maxLen := by
  obtain ⟨_, ao, cap, rfl, _, h2, _⟩ := h
  exact ⟨ao, cap, by rw [bc_len], h2⟩
/-- octet.appendText. -/
theorem appendText_any (w : World) (v p : Value) (l lp : List Int) (hown : Own w 5 v (bc l)) (hp : Rd w p lp) (hap : lp ≠ [] → ∀ k, v.ownBlock = some k → p.ownBlock ≠ some k) (hl : l.length + lp.length ≤ 140737488355300) :
    Calls Tryd.prog 81 #[v, p] w fun e w' => ∃ v', e = .returned v' ∧ App w 5 v w' v' (bc (l ++ enc lp.length ++ lp)) := by
  obtain ⟨ao, cap, rfl, hc⟩ := hp.form
  have hle := enc_len (lp.length : Int)
  go_enter Tryd.func81, Tryd.ntmps81
  go_wp2_with fail
  refine (appendInt_any w v l (lp.length : Int) hown (by omega) (by omega) (by omega)).mono ?_
  rintro e w1 ⟨v1, rfl, happ⟩
  have hp1 := hp.grown happ.grown hap
  go_wp2_with (at_builtin; refine app_bytes rfl _ _ rfl v1 (l ++ enc lp.length) rfl happ.own _ lp rfl hp1.2 (by simp only [List.length_append]; omega) ?_; intro v2 w2 happ2)
  go_ret
  exact ⟨_, rfl, happ.trans happ2⟩
theorem rdv_none (w : World) (a : Addr) (c : Nat) (h : c ≤ maxLen) : Rdv w (.slice (some a) 0 c) (bc []) :=
  ⟨some a, c, rfl, Nat.zero_le _, h, fun e => (by cases e), fun b hb j u hu => by simp [bc] at hu⟩
theorem made_size (n : Nat) : (madeCells #[Value.int .u8 0] n).size = n := by simp [madeCells]
end
end Go.Proofs.YtgpkngiakhdmhaaDoor
