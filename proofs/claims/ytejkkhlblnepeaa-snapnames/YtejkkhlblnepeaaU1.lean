/- snap.Encode's closures: a number and a text behind what stands in a box. -/
import Derived.Test.YtejkkhlblnepeaaU0
import Derived.Test.YtejkkhlblnepeaaXn
import Derived.Test.YtejkkhlblnepeaaW3
import Derived.Deep.RegionLaw
set_option linter.unusedVariables false
set_option linter.unusedSimpArgs false
namespace Go.Proofs.Ytejkkhlblnepeaa
open Go.RowKit Oct Kvl

theorem own_row_nU {w : World} {b : Nat} {t : TypeId} {e : TypeId} {xs ys : List Value} {v : Value} (h : Row w b t xs) (ho : Own w e v ys) (ht : t ≠ e) : v.ownBlock ≠ some b := by
  intro hk
  rcases ho.2 with ⟨rfl, _⟩ | ⟨g, _, cur, rfl, _, hg, _⟩
  · simp [Value.ownBlock] at hk
  · simp [Value.ownBlock] at hk
    subst hk
    unfold Row at h
    rw [h] at hg
    simp at hg
    exact ht hg.2
theorem own_oneU {w : World} {e : TypeId} {v : Value} {xs : List Value} (h : Own w e v xs) : v.oneCell' = true := by
  obtain ⟨ao, cap, rfl, _⟩ := h.form; rfl
/-- Rows of other things than bytes stay, but for one. -/
def Kpt (b : Nat) (w w' : World) : Prop := ∀ k t xs, t ≠ 5 → k ≠ b → Row w k t xs → Row w' k t xs
theorem Kpt.refl (b : Nat) (w : World) : Kpt b w w := fun _ _ _ _ _ h => h
theorem Kpt.trans {b : Nat} {w w1 w2 : World} (h : Kpt b w w1) (h' : Kpt b w1 w2) : Kpt b w w2 := fun k t xs ht hk hr => h' k t xs ht hk (h k t xs ht hk hr)
theorem Kpt.below {b : Nat} {w w' : World} (h : Below w.heap.size w w') : Kpt b w w' := fun _ _ _ _ _ hr => hr.below h
theorem Kpt.set {b : Nat} {w w' : World} (h : w.grownBy w' (some b)) : Kpt b w w' := fun k t xs _ hk hr => hr.grown h (fun e => by injection e with e; exact hk e.symm)
theorem Kpt.app {b : Nat} {w w' : World} {v v' : Value} {xs ys : List Value} (ho : Own w 5 v xs) (h : App w 5 v w' v' ys) : Kpt b w w' := fun k t zs ht _ hr => hr.grown h.grown (own_row_nU hr ho ht)
/-- The text that is being written: it stands in box b, its bytes from block B on. -/
def OB (B b : Nat) (w : World) (l : List Int) : Prop := ∃ v, Row w b 29 [v] ∧ Own w 5 v (bc l) ∧ Fr B v ∧ B ≤ b ∧ B ≤ w.heap.size
theorem OB.below {B b : Nat} {w w' : World} {l : List Int} (h : OB B b w l) (hb : Below w.heap.size w w') : OB B b w' l := by
  obtain ⟨v, h1, h2, h3, h4, h5⟩ := h
  exact ⟨v, h1.below hb, h2.below hb, h3, h4, Nat.le_trans h5 hb.size⟩
/-- A row beside it is written. -/
theorem OB.grown {B b : Nat} {w w' : World} {l : List Int} (h : OB B b w l) {k : Nat} {t : TypeId} {xs : List Value} (hg : w.grownBy w' (some k)) (hr : Row w k t xs) (ht : t ≠ 5) (hk : k ≠ b) : OB B b w' l := by
  obtain ⟨v, h1, h2, h3, h4, h5⟩ := h
  exact ⟨v, h1.grown hg (fun e => by injection e with e; exact hk e), h2.grown hg (fun j hj => by cases hj; exact own_row_nU hr h2 ht), h3, h4, Nat.le_trans h5 hg.size⟩
theorem OB.put {B b : Nat} {w w1 w2 : World} {l m : List Int} {v v1 : Value} (h1 : Row w b 29 [v]) (h2 : Own w 5 v (bc l)) (h3 : Fr B v) (h4 : B ≤ b) (h5 : B ≤ w.heap.size) (ha : App w 5 v w1 v1 (bc m)) (hr2 : Row w2 b 29 [v1]) (hg2 : w1.grownBy w2 (some b)) :
    OB B b w2 m ∧ Below B w w2 ∧ Kpt b w w2 := by
  have hne := own_row_nU h1 h2 (by decide)
  have h11 := h1.grown ha.grown hne
  have hs := Nat.le_trans h5 ha.grown.size
  exact ⟨⟨v1, hr2, ha.own.grown hg2 (fun j hj => by cases hj; exact own_row_nU h11 ha.own (by decide)), ha.fr h3 h5, h4, Nat.le_trans hs hg2.size⟩, (ha.below h3 h5).trans (grown_below hg2 hs (fun k hk => by cases hk; exact h4)), (Kpt.app h2 ha).trans (Kpt.set hg2)⟩

set_option maxHeartbeats 800000 in
theorem encNum_any (B b : Nat) (w : World) (l : List Int) (n : Int) (h : OB B b w l) (hl : l.length ≤ 1000000) :
    Calls Try.prog 17 #[.int .i64 n, .pointer (some ⟨b, 0, none⟩)] w fun e w' => e = .returned (.tuple #[]) ∧ OB B b w' (l ++ outI n) ∧ Below B w w' ∧ Kpt b w w' := by
  obtain ⟨v, hr, hown, hfr, hb, hB⟩ := h
  have hone := own_oneU hown
  have hI := int_any w n
  have hle := outI_len n
  have HL := (show Hid (l.length + (outI n).length ≤ 140737488355328) by show _ ≤ _; omega)
  clear hle hl
  go_enter Try.func17, Try.ntmps17
  go_wp2_with (first
    | (go_at_call 18; refine hI.mono ?_; rintro e w1 ⟨v1, rfl, hown1, hfr1, hb1⟩; have hr1 := hr.below hb1; have ho1 := hown.below hb1; have c0 := hr1.cell (j := 0) rfl)
    | (at_builtin; refine app_bytes rfl _ _ rfl _ l rfl ho1 _ (outI n) rfl hown1.rdv HL.out ?_; intro v2 w2 happ; have hrw := hr1.grown happ.grown (own_row_nU hr1 ho1 (by decide)))
    | (refine wl_set rfl _ _ _ rfl b 0 _ rfl rfl _ _ hrw (show 0 < 1 by decide) (by kernel_rfl) (own_oneU happ.own) ?_; intro w3 hr3 hg3))
  go_end0
  obtain ⟨p1, p2, p3⟩ := OB.put hr1 ho1 hfr hb (Nat.le_trans hB hb1.size) happ hr3.out hg3
  exact ⟨rfl, p1, (hb1.mono hB).trans p2, (Kpt.below hb1).trans p3⟩

set_option maxHeartbeats 800000 in
theorem encText_any (B b : Nat) (w : World) (l : List Int) (p : Value) (t : List Int) (h : OB B b w l) (hp : Rd w p t) (hl : l.length ≤ 1000000) (ht : t.length ≤ 1000000) :
    Calls Try.prog 19 #[p, .pointer (some ⟨b, 0, none⟩)] w fun e w' => e = .returned (.tuple #[]) ∧ OB B b w' (l ++ (enc t.length ++ t)) ∧ Below B w w' ∧ Kpt b w w' := by
  obtain ⟨v, hr, hown, hfr, hb, hB⟩ := h
  obtain ⟨ap, cp, rfl, hcp⟩ := hp.2.form
  obtain ⟨av, cv, rfl, hcv⟩ := hown.form
  rw [bc_len] at hp
  have hdw : Below w.heap.size w w.drew := ⟨rfl, rfl, rfl, Nat.le_refl _, fun _ _ => rfl⟩
  have HI := (show Hid (∀ u, Below w.heap.size w u → Calls Try.prog 20 #[.slice ap t.length cp] u fun e w' => ∃ v', e = .returned v' ∧ Own w' 5 v' (bc (enc t.length ++ t)) ∧ Fr u.heap.size v' ∧ Below u.heap.size u w' ∧ Below w.heap.size w w') from fun u hu => (bytes_any u _ t (hp.below hu) (by omega)).mono fun e w' ⟨v', e1, e2, e3, e4⟩ => ⟨v', e1, e2, e3, e4, below_and hu (Nat.le_refl _) e4⟩)
  have SK := (show Hid (∀ u, Below w.heap.size w u → Row u b 29 [.slice av (bc l).length cv] ∧ Own u 5 (.slice av (bc l).length cv) (bc l)) from fun u hu => ⟨hr.below hu, hown.below hu⟩)
  have HL := (show Hid (l.length + (enc t.length ++ t).length ≤ 140737488355328) by show _ ≤ _; have := enc_len (t.length : Int); rw [List.length_append]; omega)
  have c00 := hr.cell (j := 0) rfl
  have c01 := (hr.below hdw).cell (j := 0) rfl
  rw [bc_len] at *
  clear hl ht
  go_enter Try.func19, Try.ntmps19
  go_wp2_with fail
  go_region_law (first
    | (refine step_bytes (by rfl) _ _ (by rfl) (.slice av l.length cv) l (by rfl) ho1 v1 (enc t.length ++ t) (by rfl) hown1.rdv HL.out ?_; intro v2 w2 happ; obtain ⟨a2, c2, e2, hc2⟩ := happ.own.form; subst e2; have hrw := hr1.grown happ.grown (own_row_nU hr1 ho1 (by decide)); have d0 := hrw.cell (j := 0) rfl; have z0 := hrw.frozen 0)
    | (go_simp; go_at_call 20; refine (HI.out _ (by first | (with_reducible exact hdw) | (with_reducible exact Below.refl _ _))).mono ?_; rintro e w1 ⟨v1, rfl, hown1, hfr1, hb1', hb1⟩; obtain ⟨hr1, ho1⟩ := SK.out w1 hb1; have c0 := hr1.cell (j := 0) rfl))
  all_goals (
    go_wp2_with fail
    go_end0
    obtain ⟨p1, p2, p3⟩ := OB.put hr1 ho1 hfr hb (Nat.le_trans hB hb1.size) happ (hrw.set 0 _) (grown_set _ b 0 _)
    exact ⟨rfl, p1, (hb1.mono hB).trans p2, (Kpt.below hb1).trans p3⟩)
end Go.Proofs.Ytejkkhlblnepeaa
