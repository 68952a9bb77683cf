/- Bags in a call that began in an elder world; bagAlive, BagNames. -/
import Derived.Test.YtikfldigjieloaaBa2
set_option linter.unusedVariables false
set_option linter.unusedSimpArgs false
namespace Go.Proofs.Ytikfldigjieloaa
open Go.RowKit Oct Kvl

/-- A bag that was made in a call that began in w0. -/
structure Bq (w0 : World) (GG : Nat → Prop) (w : World) (b : Nat) (v : Value) (ys : List PPk) : Prop where
  bg : Bg GG w b v ys
  bel : Below w0.heap.size w0 w
  fr : Fr w0.heap.size v
  hb : w0.heap.size ≤ b
theorem Bq.below {w0 w w' : World} {GG : Nat → Prop} {b : Nat} {v : Value} {ys : List PPk} (h : Bq w0 GG w b v ys) (hb : Below w.heap.size w w') : Bq w0 GG w' b v ys := ⟨h.bg.below hb, below_and h.bel (Nat.le_refl _) hb, h.fr, h.hb⟩
theorem Bq.step {w0 w w' : World} {GG : Nat → Prop} {b : Nat} {v v' : Value} {ys ys' : List PPk} (h : Bq w0 GG w b v ys) (hb : Bg GG w' b v' ys') (hg : Gr2 w w' b v) (hs : Spt w v v') : Bq w0 GG w' b v' ys' :=
  ⟨hb, h.bel.trans (hg.below h.bel.size h.hb h.fr), by rcases hs with e | e; exact fun k hk => h.fr k (e ▸ hk); exact e.mono h.bel.size, h.hb⟩
/-- Rows of other kinds stay. -/
def Kpp (w w' : World) : Prop := ∀ (k : Nat) (t : TypeId) (xs : List Value), t ≠ 50 → t ≠ 29 → Row w k t xs → Row w' k t xs
theorem Kpp.of {w w' : World} {GG : Nat → Prop} {b : Nat} {v : Value} {ys : List PPk} (h : Bg GG w b v ys) (hg : Gr2 w w' b v) : Kpp w w' := fun k t xs h1 h2 hr => hg.row hr (hr.apart h.row h1) (h.lst.ne hr h2)
theorem Kpp.bel {w w' : World} (h : Below w.heap.size w w') : Kpp w w' := fun k t xs _ _ hr => hr.below h
theorem Kpp.trans {w w1 w2 : World} (h : Kpp w w1) (h' : Kpp w1 w2) : Kpp w w2 := fun k t xs h1 h2 hr => h' k t xs h1 h2 (h k t xs h1 h2 hr)

/-- The same, wherever its packets lie. -/
def Bx (w0 w : World) (b : Nat) (ys : List PPk) : Prop := ∃ v, Bq w0 Any w b v ys
theorem Bx.below {w0 w w' : World} {b : Nat} {ys : List PPk} (h : Bx w0 w b ys) (hb : Below w.heap.size w w') : Bx w0 w' b ys := by
  obtain ⟨v, h⟩ := h
  exact ⟨v, h.below hb⟩
theorem Bx.bel {w0 w : World} {b : Nat} {ys : List PPk} (h : Bx w0 w b ys) : Below w0.heap.size w0 w := by
  obtain ⟨v, h⟩ := h
  exact h.bel
theorem newX_any (w0 w : World) (h : Below w0.heap.size w0 w) : Calls Try.prog 8 #[] w fun e w' => ∃ b, e = .returned (.pointer (some ⟨b, 0, none⟩)) ∧ Bx w0 w' b [] := by
  refine (newB_any Any w).mono ?_
  rintro e w' ⟨b, e1, e2, h1, h2⟩
  exact ⟨b, e1, _, h1, below_and h (Nat.le_refl _) h2, Fr.nil _, by rw [e2]; exact h.size⟩
theorem lenX_any (w0 w : World) (b : Nat) (ys : List PPk) (h : Bx w0 w b ys) : Calls Try.prog 12 #[.pointer (some ⟨b, 0, none⟩)] w fun e w' => e = .returned (.int .i64 (ys.length : Int)) ∧ w' = w := by
  obtain ⟨v, h⟩ := h
  exact lenB_any _ _ _ _ _ h.bg
theorem putX_any (w0 w : World) (b : Nat) (ys : List PPk) (h : Bx w0 w b ys) (r : List Value) (x : PPk) (hx : RPk Any w r x) (hz : szT x.2.2) :
    Calls Try.prog 9 #[.pointer (some ⟨b, 0, none⟩), .agg r.toArray] w fun e w' => e = .returned (.int .i64 (ptP ys x).2) ∧ Bx w0 w' b (ptP ys x).1 ∧ Kpp w w' ∧ ((ptP ys x).2 ≠ 0 → Below w.heap.size w w') := by
  obtain ⟨v, h⟩ := h
  refine (putB_any Any w b v ys h.bg (fun _ _ => trivial) r x hx hz).mono ?_
  rintro e w' ⟨v', e1, e2, e3, e4, e5⟩
  exact ⟨e1, ⟨v', h.step e2 e3 e4⟩, Kpp.of h.bg e3, e5⟩
theorem copyX_any (w0 w : World) (b : Nat) (ys : List PPk) (h : Bx w0 w b ys) (i : Int) :
    Calls Try.prog 11 #[.pointer (some ⟨b, 0, none⟩), .int .i64 i] w fun e w' => e = .returned (.int .i64 (cpP ys i).2) ∧ Bx w0 w' b (cpP ys i).1 ∧ Kpp w w' ∧ ((cpP ys i).2 ≠ 0 → Below w.heap.size w w') := by
  obtain ⟨v, h⟩ := h
  refine (copyB_any Any w b v ys i h.bg (fun _ _ => trivial)).mono ?_
  rintro e w' ⟨v', e1, e2, e3, e4, e5⟩
  exact ⟨e1, ⟨v', h.step e2 e3 e4⟩, Kpp.of h.bg e3, e5⟩
theorem takeX_any (w0 w : World) (b : Nat) (ys : List PPk) (h : Bx w0 w b ys) (i : Int) :
    Calls Try.prog 15 #[.pointer (some ⟨b, 0, none⟩), .int .i64 i] w fun e w' => ∃ s, e = .returned (.tuple #[.agg ([.int .i64 (atP ys i).1.1, .int .i64 (atP ys i).1.2.1, s] : List Value).toArray, .int .i64 (atP ys i).2]) ∧ OT (From w.heap.size) w' s (atP ys i).1.2.2 ∧ Bx w0 w' b (tkP ys i) ∧ Kpp w w' := by
  obtain ⟨v, h⟩ := h
  refine (takeB_any Any w b v ys i h.bg).mono ?_
  rintro e w' ⟨s, v', e1, e0, e2, e3, e4⟩
  exact ⟨s, e1, e0, ⟨v', h.step e2 e3 e4⟩, Kpp.of h.bg e3⟩
theorem atX_any (w0 w : World) (b : Nat) (ys : List PPk) (h : Bx w0 w b ys) (i : Int) :
    Calls Try.prog 10 #[.pointer (some ⟨b, 0, none⟩), .int .i64 i] w fun e w' => ∃ s, e = .returned (.tuple #[.agg ([.int .i64 (atP ys i).1.1, .int .i64 (atP ys i).1.2.1, s] : List Value).toArray, .int .i64 (atP ys i).2]) ∧ OT (From w.heap.size) w' s (atP ys i).1.2.2 ∧ Below w.heap.size w w' ∧ Bx w0 w' b ys := by
  obtain ⟨v, h⟩ := h
  refine (atB_any Any w b v ys i h.bg).mono ?_
  rintro e w' ⟨s, e1, e0, e2⟩
  exact ⟨s, e1, e0, e2, v, h.below e2⟩
theorem rpk_lit (w : World) (p q : Int) : RPk Any w [.int .i64 p, .int .i64 q, .slice none 0 0] (p, q, []) := ⟨_, rfl, RT.nil _ _⟩
theorem szT_nil : szT [] := Nat.zero_le _

theorem ptP_ok {ys : List PPk} {x : PPk} (h : ys.length < 4096) : ptP ys x = (ys ++ [x], 0) := by unfold ptP; rw [if_neg (by omega)]
theorem ptP_full {ys : List PPk} {x : PPk} (h : 4096 ≤ ys.length) : ptP ys x = (ys, 133) := by unfold ptP; rw [if_pos h]
theorem has_at {ys : List PPk} {n : Nat} (h : n < ys.length) : hasP ys (n : Int) = true := by
  simp only [hasP, Bool.and_eq_true, decide_eq_true_eq]
  omega
theorem atP_ok {ys : List PPk} {n : Nat} (h : n < ys.length) : atP ys (n : Int) = (ys.getD n pk0, 0) := by unfold atP; rw [has_at h]; rfl
theorem tkP_ok {ys : List PPk} {n : Nat} (h : n < ys.length) : tkP ys (n : Int) = ys.take n ++ ys.drop (n + 1) := by unfold tkP; rw [has_at h]; rfl
theorem cpP_ok {ys : List PPk} {n : Nat} (h : n < ys.length) : cpP ys (n : Int) = ptP ys (ys.getD n pk0) := by unfold cpP; rw [has_at h]; rfl
theorem putX_ok (w0 w : World) (b : Nat) (ys : List PPk) (h : Bx w0 w b ys) (hl : ys.length < 4096) (r : List Value) (x : PPk) (hx : RPk Any w r x) (hz : szT x.2.2) :
    Calls Try.prog 9 #[.pointer (some ⟨b, 0, none⟩), .agg r.toArray] w fun e w' => e = .returned (.int .i64 0) ∧ Bx w0 w' b (ys ++ [x]) ∧ Kpp w w' := by
  have := putX_any w0 w b ys h r x hx hz
  rw [ptP_ok hl] at this
  exact this.mono fun e w' h => ⟨h.1, h.2.1, h.2.2.1⟩
theorem putX_no (w0 w : World) (b : Nat) (ys : List PPk) (h : Bx w0 w b ys) (hl : 4096 ≤ ys.length) (r : List Value) (x : PPk) (hx : RPk Any w r x) (hz : szT x.2.2) :
    Calls Try.prog 9 #[.pointer (some ⟨b, 0, none⟩), .agg r.toArray] w fun e w' => e = .returned (.int .i64 133) ∧ Below w.heap.size w w' := by
  have := putX_any w0 w b ys h r x hx hz
  rw [ptP_full hl] at this
  exact this.mono fun e w' h => ⟨h.1, h.2.2.2 (by simp)⟩
theorem takeX_ok (w0 w : World) (b : Nat) (ys : List PPk) (h : Bx w0 w b ys) (n : Nat) (hn : n < ys.length) :
    Calls Try.prog 15 #[.pointer (some ⟨b, 0, none⟩), .int .i64 (n : Int)] w fun e w' => ∃ s, e = .returned (.tuple #[.agg ([.int .i64 (ys.getD n pk0).1, .int .i64 (ys.getD n pk0).2.1, s] : List Value).toArray, .int .i64 0]) ∧ OT (From w.heap.size) w' s (ys.getD n pk0).2.2 ∧ Bx w0 w' b (ys.take n ++ ys.drop (n + 1)) ∧ Kpp w w' := by
  have := takeX_any w0 w b ys h n
  rwa [atP_ok hn, tkP_ok hn] at this
theorem atX_ok (w0 w : World) (b : Nat) (ys : List PPk) (h : Bx w0 w b ys) (n : Nat) (hn : n < ys.length) :
    Calls Try.prog 10 #[.pointer (some ⟨b, 0, none⟩), .int .i64 (n : Int)] w fun e w' => ∃ s, e = .returned (.tuple #[.agg ([.int .i64 (ys.getD n pk0).1, .int .i64 (ys.getD n pk0).2.1, s] : List Value).toArray, .int .i64 0]) ∧ OT (From w.heap.size) w' s (ys.getD n pk0).2.2 ∧ Below w.heap.size w w' ∧ Bx w0 w' b ys := by
  have := atX_any w0 w b ys h n
  rwa [atP_ok hn] at this
theorem copyX_ok (w0 w : World) (b : Nat) (ys : List PPk) (h : Bx w0 w b ys) (n : Nat) (hn : n < ys.length) (hl : ys.length < 4096) :
    Calls Try.prog 11 #[.pointer (some ⟨b, 0, none⟩), .int .i64 (n : Int)] w fun e w' => e = .returned (.int .i64 0) ∧ Bx w0 w' b (ys ++ [ys.getD n pk0]) ∧ Kpp w w' := by
  have := copyX_any w0 w b ys h n
  rw [cpP_ok hn, ptP_ok hl] at this
  exact this.mono fun e w' h => ⟨h.1, h.2.1, h.2.2.1⟩
theorem copyX_no (w0 w : World) (b : Nat) (ys : List PPk) (h : Bx w0 w b ys) (i c : Int) (hc : (cpP ys i).2 = c) (h0 : c ≠ 0) :
    Calls Try.prog 11 #[.pointer (some ⟨b, 0, none⟩), .int .i64 i] w fun e w' => e = .returned (.int .i64 c) ∧ Below w.heap.size w w' := by
  have := copyX_any w0 w b ys h i
  rw [hc] at this
  exact this.mono fun e w' h => ⟨h.1, h.2.2.2 h0⟩

/-- Put, of a packet that lies in boxes made meanwhile: they stay. -/
theorem putX_at (w0 wr w5 : World) (b : Nat) (ys : List PPk) (h : Bx w0 wr b ys) (hb : Below wr.heap.size wr w5) (hl : ys.length < 4096) (r : List Value) (x : PPk) (hx : RPk Any w5 r x) (hz : szT x.2.2) :
    Calls Try.prog 9 #[.pointer (some ⟨b, 0, none⟩), .agg r.toArray] w5 fun e w' => e = .returned (.int .i64 0) ∧ Bx w0 w' b (ys ++ [x]) ∧ ∀ k, wr.heap.size ≤ k → k < w5.heap.size → w'.heap[k]? = w5.heap[k]? := by
  obtain ⟨v, h⟩ := h
  have h5 := h.below hb
  refine (putB_any Any w5 b v ys h5.bg (fun _ _ => trivial) r x hx hz).mono ?_
  rintro e w' ⟨v', e1, e2, e3, e4, _⟩
  rw [ptP_ok hl] at e1 e2
  refine ⟨e1, ⟨v', h5.step e2 e3 e4⟩, fun k hk hk5 => e3.block k hk5 (fun e => ?_) (fun e => ?_)⟩
  · have := h.bg.lt; omega
  · have := h.bg.lst.lt k e; omega
/-- A packet of a list that came in. -/
theorem pks_at {w : World} {v : Value} {ys : List PPk} (h : RL RPk 3 Any w v ys) (hz : szL 40 (fun x : PPk => szT x.2.2) ys) (k : Nat) (hk : k < ys.length) : ∃ b off cap s, v = .slice (some ⟨b, off, none⟩) ys.length cap ∧ ys.length ≤ cap ∧ cap ≤ maxLen ∧ s.oneCell' = true ∧ szT (ys.getD k pk0).2.2 ∧
    ∀ w', Below w.heap.size w w' → w'.rangeAt b (off + k * 3) [.int .i64 (ys.getD k pk0).1, .int .i64 (ys.getD k pk0).2.1, s] ∧ RT Any w' s (ys.getD k pk0).2.2 := by
  have hy : ys[k]? = some (ys.getD k pk0) := by rw [List.getD, List.getElem?_eq_getElem hk]; rfl
  obtain ⟨b, off, cap, e, h1, h2, _, hb, h3⟩ := h.at (by omega)
  obtain ⟨r, _, hr, s, rfl, hs⟩ := h3 k _ hy
  exact ⟨b, off, cap, s, e, h1, h2, hs.one, hz.2 _ (List.mem_of_getElem? hy), fun w' hw => ⟨rangeAt_block hr (hw.block b hb), hs.mv (Mv.below hw)⟩⟩

set_option maxRecDepth 10000 in
set_option maxHeartbeats 1000000 in
theorem bagAlive_any (w : World) : Calls Try.prog 7 #[] w fun e w' => e = .returned (.bool true) ∧ Below w.heap.size w w' := by
  have le := Nat.le_refl w.heap.size
  have hN := newX_any w w (Below.refl _ _)
  have HP := (show Hid (∀ u b ys (p q : Int), Bx w u b ys → ys.length < 4096 → Calls Try.prog 9 #[.pointer (some ⟨b, 0, none⟩), .agg ([.int .i64 p, .int .i64 q, .slice none 0 0] : List Value).toArray] u fun e w' => e = .returned (.int .i64 0) ∧ Bx w w' b (ys ++ [(p, q, [])])) from fun u b ys p q h hl => (putX_ok w u b ys h hl _ (p, q, []) (rpk_lit u p q) szT_nil).mono fun e w' h => ⟨h.1, h.2.1⟩)
  have HC := (show Hid (∀ u b, Bx w u b [(0, 1, []), (0, 2, [])] → Calls Try.prog 11 #[.pointer (some ⟨b, 0, none⟩), .int .i64 0] u fun e w' => e = .returned (.int .i64 0) ∧ Bx w w' b [(0, 1, []), (0, 2, []), (0, 1, [])]) from fun u b h => (copyX_ok w u b _ h 0 (by decide) (by decide)).mono fun e w' h => ⟨h.1, h.2.1⟩)
  have HT := (show Hid (∀ u b, Bx w u b [(0, 1, []), (0, 2, []), (0, 1, [])] → Calls Try.prog 15 #[.pointer (some ⟨b, 0, none⟩), .int .i64 1] u fun e w' => ∃ s, e = .returned (.tuple #[.agg ([.int .i64 0, .int .i64 2, s] : List Value).toArray, .int .i64 0]) ∧ s.oneCell' = true ∧ Bx w w' b [(0, 1, []), (0, 1, [])]) from fun u b h => (takeX_ok w u b _ h 1 (by decide)).mono fun e w' ⟨s, h1, h2, h3, _⟩ => ⟨s, h1, h2.one, h3⟩)
  have HL := (show Hid (∀ u b, Bx w u b [(0, 1, []), (0, 1, [])] → Calls Try.prog 12 #[.pointer (some ⟨b, 0, none⟩)] u fun e w' => e = .returned (.int .i64 2) ∧ w' = u) from fun u b h => lenX_any w u b _ h)
  go_enter Try.func7, Try.ntmps7
  go_upto_region 2 with (go_at_call 8; refine hN.mono ?_; rintro e w1 ⟨b, rfl, hb1⟩)
  go_upto_region 4 with (first
    | (go_at_call 11; refine (HC.out w1 b hb1).mono ?_; rintro e w4 ⟨rfl, hb4⟩)
    | (go_at_call 9; refine (HP.out w1 b _ _ _ hb1 (by decide)).mono ?_; rintro e w1 ⟨rfl, hb1⟩))
  go_upto_region 5 with (first
    | (go_at_call 15; refine (HT.out w4 b hb4).mono ?_; rintro e w5 ⟨s5, rfl, o5, hb5⟩; have rn := Row.new w5 29 [.int .i64 0, .int .i64 0, .slice none 0 0])
    | (refine wl_store rfl _ _ _ rfl w5.heap.size [.int .i64 0, .int .i64 2, s5] rfl rfl _ _ rn rfl (by kernel_rfl) (onP3 o5) ?_; intro w6 hr6 hg6))
  have hb56 : Below w5.heap.size w5 w6 := (below_alloc w5 (.cells ([.int .i64 0, .int .i64 0, .slice none 0 0] : List Value).toArray 29)).trans (grown_below hg6 (by simp) (fun k hk => by cases hk; exact Nat.le_refl _))
  have hb6 := hb5.below hb56
  have c1 := hr6.out.cell (j := 1) rfl
  have HB := (show Hid (Below w.heap.size w w6) from hb6.bel)
  have hL := HL.out w6 b hb6
  clear rn hg6 hr6
  go_wp2_with (go_at_call 12; refine hL.mono ?_; rintro e w6 ⟨rfl, rfl⟩)
  go_ret
  exact ⟨rfl, HB.out⟩

end Go.Proofs.Ytikfldigjieloaa
