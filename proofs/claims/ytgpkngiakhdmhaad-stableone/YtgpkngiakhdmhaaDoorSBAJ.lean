/- Stable sorting, plain; nothing of any program. -/
import Derived.Test.YtgpkngiakhdmhaaDoorSBAA
set_option linter.unusedSimpArgs false
set_option linter.unusedVariables false
namespace Go.Proofs.YtgpkngiakhdmhaaDoor
namespace Stb
variable {α : Type} {k : α → Int}
/-- Sorted by the key. -/
def Srt (k : α → Int) (l : List α) : Prop := l.Pairwise fun x y => k x ≤ k y
/-- The same things, those of one key in the same order. -/
def Sam (k : α → Int) (l l' : List α) : Prop := l'.length = l.length ∧ ∀ c, l'.filter (fun x => decide (k x = c)) = l.filter (fun x => decide (k x = c))
theorem Sam.refl (l : List α) : Sam k l l := ⟨rfl, fun _ => rfl⟩
theorem Sam.trans {a b c : List α} (h : Sam k a b) (h' : Sam k b c) : Sam k a c := ⟨h'.1.trans h.1, fun x => (h'.2 x).trans (h.2 x)⟩
theorem Sam.app {a a' b b' : List α} (h : Sam k a a') (h' : Sam k b b') : Sam k (a ++ b) (a' ++ b') := ⟨by simp [h.1, h'.1], fun c => by rw [List.filter_append, List.filter_append, h.2 c, h'.2 c]⟩
theorem Sam.mem {a a' : List α} (h : Sam k a a') {x : α} : x ∈ a' ↔ x ∈ a := by
  have e := h.2 (k x)
  have h1 : x ∈ a' ↔ x ∈ a'.filter (fun y => decide (k y = k x)) := by simp
  have h2 : x ∈ a ↔ x ∈ a.filter (fun y => decide (k y = k x)) := by simp
  rw [h1, h2, e]
theorem Sam.swap {a b : List α} (h : ∀ x ∈ a, ∀ y ∈ b, k y < k x) : Sam k (a ++ b) (b ++ a) := by
  refine ⟨by simp [Nat.add_comm], fun c => ?_⟩
  rw [List.filter_append, List.filter_append]
  rcases Classical.em (∃ x ∈ a, k x = c) with ⟨x, hx, hc⟩ | hn
  · have e : b.filter (fun x => decide (k x = c)) = [] := by
      rw [List.filter_eq_nil_iff]
      intro y hy
      have := h x hx y hy
      simp; omega
    rw [e]; simp
  · have e : a.filter (fun x => decide (k x = c)) = [] := by
      rw [List.filter_eq_nil_iff]
      intro x hx
      simp; exact fun hc => hn ⟨x, hx, hc⟩
    rw [e]; simp
theorem Srt.app {a b : List α} (ha : Srt k a) (hb : Srt k b) (h : ∀ x ∈ a, ∀ y ∈ b, k x ≤ k y) : Srt k (a ++ b) := List.pairwise_append.2 ⟨ha, hb, h⟩
theorem Srt.l {a b : List α} (h : Srt k (a ++ b)) : Srt k a := (List.pairwise_append.1 h).1
theorem Srt.r {a b : List α} (h : Srt k (a ++ b)) : Srt k b := (List.pairwise_append.1 h).2.1
theorem Srt.le {a b : List α} (h : Srt k (a ++ b)) : ∀ x ∈ a, ∀ y ∈ b, k x ≤ k y := (List.pairwise_append.1 h).2.2
/-- One step of a merge: the middle turned, both halves merged. -/
theorem mergeStep {A1 A2 B1 B2 L R : List α} (hA : Srt k (A1 ++ A2)) (hB : Srt k (B1 ++ B2)) (h1 : ∀ x ∈ A2, ∀ y ∈ B1, k y < k x) (h2 : ∀ x ∈ A1, ∀ y ∈ B2, k x ≤ k y)
    (hL : Srt k L) (sL : Sam k (A1 ++ B1) L) (hR : Srt k R) (sR : Sam k (A2 ++ B2) R) : Srt k (L ++ R) ∧ Sam k (A1 ++ A2 ++ (B1 ++ B2)) (L ++ R) := by
  refine ⟨hL.app hR fun x hx y hy => ?_, ?_⟩
  · rcases List.mem_append.1 (sL.mem.1 hx) with hx | hx <;> rcases List.mem_append.1 (sR.mem.1 hy) with hy | hy
    · exact hA.le x hx y hy
    · exact h2 x hx y hy
    · exact Int.le_of_lt (h1 y hy x hx)
    · exact hB.le x hx y hy
  · have s1 : Sam k (A1 ++ A2 ++ (B1 ++ B2)) (A1 ++ B1 ++ (A2 ++ B2)) := by
      have := ((Sam.refl (k := k) A1).app (Sam.swap h1)).app (Sam.refl (k := k) B2)
      simpa using this
    exact s1.trans (sL.app sR)
/-- One thing put into a sorted list, from behind. -/
theorem insStep {A B : List α} {x : α} (h : Srt k (A ++ B)) (h1 : ∀ y ∈ B, k x < k y) (h2 : ∀ y ∈ A, k y ≤ k x) : Srt k (A ++ x :: B) ∧ Sam k (A ++ B ++ [x]) (A ++ x :: B) := by
  refine ⟨h.l.app (List.pairwise_cons.2 ⟨fun y hy => Int.le_of_lt (h1 y hy), h.r⟩) fun y hy z hz => ?_, ?_⟩
  · rcases List.mem_cons.1 hz with rfl | hz
    · exact h2 y hy
    · exact h.le y hy z hz
  · have s := (Sam.refl (k := k) A).app (Sam.swap (k := k) (a := B) (b := [x]) fun y hy z hz => by rw [List.mem_singleton.1 hz]; exact h1 y hy)
    simpa using s
theorem Srt.map {β : Type} {f : α → β} {k' : β → Int} (hf : ∀ x, k' (f x) = k x) {l : List α} (h : Srt k l) : Srt k' (l.map f) := List.pairwise_map.2 (h.imp fun {x y} hxy => by rw [hf, hf]; exact hxy)
theorem Sam.map {β : Type} {f : α → β} {k' : β → Int} (hf : ∀ x, k' (f x) = k x) {l l' : List α} (h : Sam k l l') : Sam k' (l.map f) (l'.map f) := ⟨by simp [h.1], fun c => by
  have e : ∀ q : List α, (q.map f).filter (fun x => decide (k' x = c)) = (q.filter (fun x => decide (k x = c))).map f := fun q => by
    rw [List.filter_map]
    congr 1
    refine List.filter_congr fun x _ => ?_
    simp [Function.comp, hf]
  rw [e, e, h.2 c]⟩
end Stb
end Go.Proofs.YtgpkngiakhdmhaaDoor
