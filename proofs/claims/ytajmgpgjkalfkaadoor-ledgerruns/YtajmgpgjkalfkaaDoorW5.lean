/- The walks over lists of texts: copying, comparing, unpacking. -/
import Derived.Test.YtajmgpgjkalfkaaDoorW4
import Derived.Deep.QuietTactic
import Derived.BigQuiet
namespace Go.Proofs.YtajmgpgjkalfkaaDoor
open Go.RowKit Oct

theorem Tryd.info23 : (Tryd.prog.info? 29).map (fun i => (i.zero, i.size, i.bytes)) = some (some (.slice none 0 0), 1, 24) := by kernel_rfl

/-- 'append(s, x...)' of texts, at this program. -/
theorem app_list {w : World} {ops : Array Oper} {rest : List Oper} {o : Oper} {a : Act} {Q : Exit → Act → World → Prop} (hgd : o.guard = none) (s x : Operand)
    (ho : o.op = .call { callee := .builtin .append, args := #[s, x], argTypes := #[85, 85] })
    (v : Value) (vs : List Value) (hs : a.eval s = v) (hown : Own w 29 v vs) (sv : Value) (us : List Value) (hx : a.eval x = sv) (hsrc : Rdv w sv us) (h1 : ∀ u ∈ us, u.oneCell' = true) (hb : vs.length + us.length ≤ 1000000000)
    (h : ∀ v' w', App w 29 v w' v' (vs ++ us) → wpList Tryd.prog ops Q rest (a.put o.dst v') w') : wpList Tryd.prog ops Q (o :: rest) a w := by
  obtain ⟨i0, hi, hz0, hz1, hz2⟩ := info_parts Tryd.info23
  exact wpList_app (wanted_none hgd) s x 85 ho 29 i0 (.slice none 0 0) 24 Tryd.underlying85 hi hz0 hz1 hz2 rfl v vs hs hown sv us hx hsrc h1 (by unfold maxLen; omega) (by omega) h

theorem Own.oneCell {w : World} {e : TypeId} {v : Value} {xs : List Value} (h : Own w e v xs) : v.oneCell' = true := by
  obtain ⟨ao, cap, rfl, _⟩ := h.form
  rfl
theorem own_elem (w : World) (x : Value) (e : TypeId) : Own (w.alloc (.cells #[x] e)) e (.slice (some ⟨w.heap.size, 0, none⟩) 1 1) [x] :=
  World.ownsRow_lit (base := 0) (size := 1) w #[x] 1 (Nat.zero_le _) (by decide) rfl
theorem own_zerol (w : World) (e : TypeId) : Own (w.alloc (.cells #[] e)) e (.slice (some ⟨w.heap.size, 0, none⟩) 0 0) [] :=
  World.ownsRow_lit (base := 0) (size := 1) w #[] 0 (Nat.zero_le _) (by decide) rfl

/-- Texts that the call itself made. -/
def Els (w : World) (vs : List Value) (ll : List (List Int)) : Prop := All2 (fun c l => Own w 5 c (bc l)) vs ll
theorem Els.below {w w' : World} {vs : List Value} {ll : List (List Int)} (h : Els w vs ll) (hb : Below w.heap.size w w') : Els w' vs ll := h.mono fun _ _ h => h.below hb
/-- They stay while a list of texts is appended to. -/
theorem Els.app {w w' : World} {v v' : Value} {vs us xs : List Value} {ll : List (List Int)} (h : Els w us ll) (hv : Own w 29 v vs) (ha : App w 29 v w' v' xs) : Els w' us ll :=
  h.mono fun _ _ h => h.grown ha.grown (hv.apart h (by decide))
theorem Els.rdl {w : World} {v : Value} {vs : List Value} {ll : List (List Int)} (h : Els w vs ll) (hv : Own w 29 v vs) (hb : Byts ll) : Rdl w v ll := by
  refine ⟨vs, hv.rdv, ?_⟩
  clear hv
  unfold Els at h
  induction ll generalizing vs with
  | nil => cases vs with
    | nil => trivial
    | cons x r => exact h.elim
  | cons l ll ih => cases vs with
    | nil => exact h.elim
    | cons x r => exact ⟨h.1.rd (hb l (by simp)), ih h.2 (fun y hy => hb y (by simp [hy]))⟩
theorem Els.snoc {w : World} {vs : List Value} {ll : List (List Int)} {c : Value} {l : List Int} (h : Els w vs ll) (hc : Own w 5 c (bc l)) : Els w (vs ++ [c]) (ll ++ [l]) := All2.app h ⟨hc, trivial⟩

theorem els_one {w : World} : ∀ {vs : List Value} {ll : List (List Int)}, Els w vs ll → ∀ u ∈ vs, u.oneCell' = true
  | [], _, _, u, hu => by cases hu
  | v :: vs, [], h, _, _ => h.elim
  | v :: vs, l :: ll, h, u, hu => by
    rcases List.mem_cons.1 hu with e | e
    · subst e; exact h.1.oneCell
    · exact els_one h.2 u e


theorem bel_drewN {B : Nat} {a w : World} (h : Below B a w) (n : Nat) : Below B a (w.drewN n) := h.trans ⟨rfl, rfl, rfl, Nat.le_refl _, fun _ _ => rfl⟩
theorem Rd.drewN {w : World} {v : Value} {l : List Int} (h : Rd w v l) (n : Nat) : Rd (w.drewN n) v l := h
theorem take_ne {α : Type} {a b : List α} {k : Nat} {x y : α} (ha : a[k]? = some x) (hb : b[k]? = some y) (h : x ≠ y) : a ≠ b := fun e => by
  subst e
  rw [ha] at hb
  exact h (Option.some.inj hb)


end Go.Proofs.YtajmgpgjkalfkaaDoor
