/- Windows in memory: Low, In, New, At. -/
import Derived.Test.YtagoeccgmkjhoaaWp
import Derived.Deep.CutBlock
set_option linter.unusedVariables false
set_option linter.unusedSimpArgs false
namespace Go.Proofs.Ytagoeccgmkjhoaa
open Go.RowKit Oct Kvl

theorem All2.setW {α β : Type} {R : α → β → Prop} : ∀ {ps : List α} {bs : List β} {j : Nat} {a : α} {b : β}, All2 R ps bs → R a b → All2 R (ps.set j a) (bs.set j b)
  | [], [], j, a, b, _, _ => by simp [All2]
  | x :: ps, y :: bs, 0, a, b, h, hr => ⟨hr, h.2⟩
  | x :: ps, y :: bs, j + 1, a, b, h, hr => ⟨h.1, All2.setW h.2 hr⟩
  | [], _ :: _, _, _, _, h, _ => h.elim
  | _ :: _, [], _, _, _, h, _ => h.elim
/-- An entry of the map: what is known of a slot. -/
def REn (G : Nat → Prop) (w : World) (z : Int × Value) (y : Int × PSl) : Prop := z.1 = y.1 ∧ ∃ r, z.2 = .agg r.toArray ∧ RSl G w r y.2
theorem REn.mv {G G' : Nat → Prop} {w w' : World} {z : Int × Value} {y : Int × PSl} (h : REn G w z y) (hs : w.heap.size ≤ w'.heap.size) (hm : Mv G G' w w') : REn G' w' z y := by
  obtain ⟨h1, r, h2, h3⟩ := h
  exact ⟨h1, r, h2, mov_sl _ _ _ _ _ _ h3 hs hm⟩
/-- A window at block b, its map at block m. -/
structure Wnd (G : Nat → Prop) (w : World) (b m : Nat) (low : Int) (kn : List (Int × PSl)) : Prop where
  row : Row w b 69 [.int .i64 low, .map (some m)]
  ok : OkW low kn
  map : ∃ l, Mp w m l ∧ All2 (REn G w) l kn
/-- Neither block. -/
def NB (b m : Nat) : Nat → Prop := fun k => k ≠ b ∧ k ≠ m
theorem Wnd.ne {G : Nat → Prop} {w : World} {b m : Nat} {low : Int} {kn : List (Int × PSl)} (h : Wnd G w b m low kn) : b ≠ m := by
  rintro rfl
  obtain ⟨l, h1, _⟩ := h.map
  have h2 := h.row.cell (j := 0) rfl
  rw [h1.nocell 0] at h2
  cases h2
theorem Wnd.lt {G : Nat → Prop} {w : World} {b m : Nat} {low : Int} {kn : List (Int × PSl)} (h : Wnd G w b m low kn) : b < w.heap.size ∧ m < w.heap.size := by
  obtain ⟨l, h1, h2⟩ := h.map
  exact ⟨h.row.lt, h1.lt⟩
theorem Wnd.mv {G G' : Nat → Prop} {w w' : World} {b m : Nat} {low : Int} {kn : List (Int × PSl)} (h : Wnd G w b m low kn) (hs : w.heap.size ≤ w'.heap.size) (hb : w'.heap[b]? = w.heap[b]?) (hmb : w'.heap[m]? = w.heap[m]?) (hm : Mv G G' w w') : Wnd G' w' b m low kn := by
  obtain ⟨l, h1, h2⟩ := h.map
  refine ⟨hb.trans h.row, h.ok, l, ?_, h2.mono fun z y hz => hz.mv hs hm⟩
  obtain ⟨es, clock, h3, h4⟩ := h1
  exact ⟨es, clock, hmb.trans h3, h4⟩
theorem Wnd.below {G : Nat → Prop} {w w' : World} {b m : Nat} {low : Int} {kn : List (Int × PSl)} (h : Wnd G w b m low kn) (hb : Below w.heap.size w w') : Wnd G w' b m low kn :=
  h.mv hb.size (hb.block b h.lt.1) (hb.block m h.lt.2) (Mv.belowG hb)
theorem keys_ofW {G : Nat → Prop} {w : World} : ∀ {l : List (Int × Value)} {kn : List (Int × PSl)}, All2 (REn G w) l kn → l.map (·.1) = keysW kn
  | [], [], _ => rfl
  | z :: l, y :: kn, h => by
    have := keys_ofW h.2
    unfold keysW at this ⊢
    simp [h.1.1, this]
  | [], _ :: _, h => h.elim
  | _ :: _, [], h => h.elim
/-- What a look-up gives. -/
theorem Wnd.look {G : Nat → Prop} {w : World} {b m : Nat} {low : Int} {kn : List (Int × PSl)} (h : Wnd G w b m low kn) (k : Int) : ∃ r, RSl G w r (atL kn k) ∧
    ∀ u, u.heap[m]? = w.heap[m]? → (Instr.lookup 67 (.map (some m)) (.int .i64 k) false).run Try.prog u = .ok (.agg r.toArray) u := by
  obtain ⟨l, h1, h2⟩ := h.map
  have hk := keys_ofW h2
  have hmp : ∀ u : World, u.heap[m]? = w.heap[m]? → Mp u m l := fun u hu => by
    obtain ⟨es, clock, h3, h4⟩ := h1
    exact ⟨es, clock, hu.trans h3, h4⟩
  cases hf : fnd k (keysW kn) with
  | none =>
    refine ⟨zSl, by rw [at_none hf]; exact RSl.zero _ _, fun u hu => ?_⟩
    exact (hmp u hu).look_none (by rw [hk]; exact hf)
  | some j =>
    have hj := at_some hf
    obtain ⟨z, hz⟩ : ∃ z, l[j]? = some z := ⟨_, List.getElem?_eq_getElem (by rw [h2.len]; exact (List.getElem?_eq_some_iff.1 hj).1)⟩
    obtain ⟨e1, r, e2, e3⟩ := h2.get hz hj
    refine ⟨r, e3, fun u hu => ?_⟩
    obtain ⟨z1, z2⟩ := z
    simp only at e1 e2
    subst e1 e2
    exact (hmp u hu).look_some (by rw [hk]; exact hf) hz

theorem lowW_any {G : Nat → Prop} {b m : Nat} {low : Int} {kn : List (Int × PSl)} (w : World) (h : Wnd G w b m low kn) :
    Calls Try.prog 11 #[.pointer (some ⟨b, 0, none⟩)] w fun e w' => e = .returned (.int .i64 low) ∧ w' = w := by
  have c0 := h.row.cell (j := 0) rfl
  clear h
  go_enter Try.func11, Try.ntmps11
  go_wp2_with fail
  go_ret
  exact ⟨rfl, rfl⟩
theorem inW_any {G : Nat → Prop} {b m : Nat} {low : Int} {kn : List (Int × PSl)} (w : World) (h : Wnd G w b m low kn) (k : Int) :
    Calls Try.prog 15 #[.pointer (some ⟨b, 0, none⟩), .int .i64 k] w fun e w' => e = .returned (.bool (inW low k)) ∧ w' = w := by
  have c0 := h.row.cell (j := 0) rfl
  have hl := h.ok.lo
  have hwr : wrap64 (low + 16) = low + 16 := IntWalk.wrap64_in _ ⟨by omega, by omega⟩
  clear h
  by_cases h1 : low < k
  · have d1 : decide (low < k) = true := by simpa using h1
    have hI : inW low k = decide (k ≤ low + 16) := by unfold inW; rw [d1]; rfl
    rw [hI]
    go_enter Try.func15, Try.ntmps15
    go_wp2_with fail
    go_ret
    exact ⟨rfl, rfl⟩
  · have d1 : decide (low < k) = false := by simpa using h1
    have hI : inW low k = false := by unfold inW; rw [d1]; rfl
    rw [hI]
    go_enter Try.func15, Try.ntmps15
    go_wp2_with fail
    go_ret
    exact ⟨rfl, rfl⟩
theorem newW_any (w : World) (n : Int) : Calls Try.prog 8 #[.int .i64 n] w fun e w' => e = .returned (.pointer (some ⟨w.heap.size + 1, 0, none⟩)) ∧ Wnd (NB (w.heap.size + 1) w.heap.size) w' (w.heap.size + 1) w.heap.size (bndW n) [] ∧ Below w.heap.size w w' := by
  have hmm := @run_makeMap Try.prog
  have hm1 := Mp.made w
  obtain ⟨w1, hw1⟩ : ∃ w1, w1 = w.alloc (.map #[] 0) := ⟨_, rfl⟩
  have hs : w1.heap.size = w.heap.size + 1 := by rw [hw1]; simp
  have hb1 : Below w.heap.size w w1 := by rw [hw1]; exact below_alloc _ _
  rw [← hw1] at hm1
  have fin : ∀ q : Int, q = bndW n → Wnd (NB (w.heap.size + 1) w.heap.size) (w1.alloc (.cells #[.int .i64 q, .map (some w.heap.size)] 69)) (w.heap.size + 1) w.heap.size (bndW n) [] ∧ Below w.heap.size w (w1.alloc (.cells #[.int .i64 q, .map (some w.heap.size)] 69)) := fun q hq => by
    subst hq
    have hr := Row.new w1 69 [.int .i64 (bndW n), .map (some w.heap.size)]
    rw [hs] at hr
    exact ⟨⟨hr, OkW.nil n, [], hm1.below (below_alloc _ _), trivial⟩, hb1.alloc hb1.size _⟩
  go_enter Try.func8, Try.ntmps8
  go_wp2_with fail
  all_goals (
    go_ret
    rw [← hw1]
    refine ⟨rfl, fin _ ?_⟩
    unfold bndW
    repeat' split
    all_goals omega)

set_option maxRecDepth 10000 in
set_option maxHeartbeats 2000000 in
theorem atW_any {G : Nat → Prop} {b m : Nat} {low : Int} {kn : List (Int × PSl)} (w : World) (h : Wnd G w b m low kn) (k : Int) :
    Calls Try.prog 13 #[.pointer (some ⟨b, 0, none⟩), .int .i64 k] w fun e w' => ∃ r, e = .returned (.agg r.toArray) ∧ RSl (From w.heap.size) w' r (atL kn k) ∧ Below w.heap.size w w' := by
  have hz := h.ok.at k
  obtain ⟨r0, hr0, hlk⟩ := h.look k
  obtain ⟨w1, hw1⟩ : ∃ w1, w1 = w.alloc (.cells zSl.toArray 33) := ⟨_, rfl⟩
  have B1 : Below w.heap.size w w1 := by rw [hw1]; exact below_alloc _ _
  have R1 : Row w1 w.heap.size 33 zSl := by rw [hw1]; exact Row.new _ _ _
  have hs : w1.heap.size = w.heap.size + 1 := by rw [hw1]; simp
  have h1 := h.below B1
  have c1 := h1.row.cell (j := 1) rfl
  have hl1 := hlk w1 (B1.block m h.lt.2)
  have hr1 : RSl Any w1 r0 (atL kn k) := mov_sl _ _ _ _ _ _ hr0 B1.size (fun k hk hlt => ⟨B1.block k hlt, trivial⟩)
  have hC := cloneSlotS_any w1 r0 (atL kn k) hr1 hz
  clear hlk
  go_enter Try.func13, Try.ntmps13
  go_upto_region 1 with fail
  unfold zSl at hw1
  rw [← hw1]
  clear hw1 h1 h hr1 hr0
  have HS := (show Hid (w1.heap.size = w.heap.size + 1) from hs)
  clear hs
  go_wp2_with (first
    | (go_at_call 35; refine hC.mono ?_; rintro e w2 ⟨r2, rfl, hr2, hb2⟩; have R2 := R1.below hb2)
    | (refine wl_store rfl _ _ _ rfl w.heap.size r2 rfl rfl _ _ R2 (by rw [hr2.len]; rfl) (by rw [hr2.len]; kernel_rfl) (one_RSl hr2) ?_; intro w3 R3 hg3))
  have hs := HS.out
  have B2 := below_and B1 (Nat.le_refl _) hb2
  have B3 : Below w.heap.size w w3 := B2.trans (grown_below hg3 B2.size (fun k hk => by cases hk; exact Nat.le_refl _))
  refine bodyPost_ret (v := .agg r2.toArray) (results_cell_row rfl _ _ w.heap.size _ _ (0, 0) _ (by rfl) R3.out Try.underlying33 rfl (by simp only [List.size_toArray, hr2.len]; kernel_rfl)) rfl ?_
  exact ⟨_, rfl, mov_sl _ _ _ _ _ _ hr2 hg3.size (Mv.from (B := w1.heap.size) hg3 (by omega) (by omega)), B3⟩
end Go.Proofs.Ytagoeccgmkjhoaa
