/- Two certificates share enough signers: plain. -/
import Derived.Test.YthnjeglfgfjpkabDoorT5
namespace Go.Proofs.YthnjeglfgfjpkabDoor
open Oct Bal

/-- How many pairs of the same signers there are. -/
def hits (i : Int) : List PVote → Nat
  | [] => 0
  | y :: ys => (if i = y.1 then 1 else 0) + hits i ys
def pairs : List PVote → List PVote → Nat
  | [], _ => 0
  | x :: xs, ys => hits x.1 ys + pairs xs ys
theorem hits_snoc (i : Int) : ∀ (ys : List PVote) (y : PVote), hits i (ys ++ [y]) = hits i ys + (if i = y.1 then 1 else 0)
  | [], y => by simp [hits]
  | z :: ys, y => by rw [List.cons_append, hits, hits, hits_snoc i ys y]; omega
theorem pairs_snoc : ∀ (xs : List PVote) (x : PVote) (ys : List PVote), pairs (xs ++ [x]) ys = pairs xs ys + hits x.1 ys
  | [], x, ys => by simp [pairs]
  | z :: xs, x, ys => by rw [List.cons_append, pairs, pairs, pairs_snoc xs x ys]; omega
theorem hits_take (i : Int) (ys : List PVote) (q : Nat) (a : PVote) (h : ys[q]? = some a) : hits i (ys.take (q + 1)) = hits i (ys.take q) + (if i = a.1 then 1 else 0) := by
  rw [List.take_add_one, h, ← hits_snoc]; rfl
theorem pairs_take (xs ys : List PVote) (q : Nat) (a : PVote) (h : xs[q]? = some a) : pairs (xs.take (q + 1)) ys = pairs (xs.take q) ys + hits a.1 ys := by
  rw [List.take_add_one, h, ← pairs_snoc]; rfl
theorem hits_mem {i : Int} : ∀ {ys : List PVote}, i ∈ ys.map (·.1) → 1 ≤ hits i ys
  | y :: ys, h => by
    rw [hits]
    rcases List.mem_cons.1 h with e | e
    · rw [if_pos e]; omega
    · have := hits_mem (i := i) (ys := ys) e; omega
theorem hits_le (i : Int) : ∀ ys : List PVote, hits i ys ≤ ys.length
  | [] => Nat.le_refl _
  | y :: ys => by rw [hits, List.length_cons]; have := hits_le i ys; split <;> omega
theorem pairs_le : ∀ xs ys : List PVote, pairs xs ys ≤ xs.length * ys.length
  | [], ys => by simp [pairs]
  | x :: xs, ys => by rw [pairs, List.length_cons, Nat.succ_mul]; have := pairs_le xs ys; have := hits_le x.1 ys; omega
/-- A certificate's signers rise, from 0 on, below n. -/
theorem cert_range {R : PVote → Bool} {n : Int} : ∀ {ys : List PVote} {p : Int}, certW R n p ys = true → (∀ i ∈ ys.map (·.1), p < i ∧ i < n) ∧ (ys.map (·.1)).Nodup
  | [], _, _ => ⟨fun i hi => absurd hi (by simp), List.nodup_nil⟩
  | y :: ys, p, h => by
    simp only [certW, Bool.and_eq_true, decide_eq_true_eq] at h
    obtain ⟨⟨⟨h1, h2⟩, _⟩, h3⟩ := h
    obtain ⟨h4, h5⟩ := cert_range h3
    refine ⟨fun i hi => ?_, ?_⟩
    · rcases List.mem_cons.1 hi with e | e
      · rw [e]; exact ⟨h1, h2⟩
      · have := h4 i e; exact ⟨by omega, this.2⟩
    · rw [List.map_cons, List.nodup_cons]
      exact ⟨fun e => by have := h4 _ e; omega, h5⟩
theorem nodup_len : ∀ (m : Nat) (l : List Int), (∀ i ∈ l, 0 ≤ i ∧ i < (m : Int)) → l.Nodup → l.length ≤ m
  | 0, [], _, _ => Nat.le_refl _
  | 0, x :: l, h, _ => by have := h x (List.mem_cons_self ..); omega
  | m + 1, l, h, hn => by
    have h1 := nodup_len m (l.erase (m : Int)) (fun i hi => by
      have h2 := h i (List.mem_of_mem_erase hi)
      have h3 : i ≠ (m : Int) := fun e => by rw [e] at hi; exact (hn.not_mem_erase) hi
      omega) (hn.erase _)
    have h4 := List.length_erase_le (a := (m : Int)) (l := l)
    have h5 : l.length ≤ (l.erase (m : Int)).length + 1 := by
      rw [List.length_erase]
      split <;> omega
    omega
/-- The ones of xs that aren't of ys, and ys, are apart. -/
theorem pairs_ge : ∀ (xs ys : List PVote), (xs.map (·.1)).Nodup → (ys.map (·.1)).Nodup → xs.length ≤ pairs xs ys + ((xs.map (·.1)).filter (fun i => !(ys.map (·.1)).contains i)).length
  | [], ys, _, _ => by simp
  | x :: xs, ys, hx, hy => by
    rw [List.map_cons, List.nodup_cons] at hx
    have ih := pairs_ge xs ys hx.2 hy
    rw [pairs, List.length_cons, List.map_cons, List.filter_cons]
    by_cases hm : x.1 ∈ ys.map (·.1)
    · have h1 := hits_mem hm
      split <;> (try simp only [List.length_cons]) <;> omega
    · have : (!(ys.map (·.1)).contains x.1) = true := by simpa using hm
      rw [if_pos this, List.length_cons]
      omega
theorem meets {R S : PVote → Bool} {n : Int} {xs ys : List PVote} (hx : certL R n xs = true) (hy : certL S n ys = true) : rgt n = true ∧ fau n + 1 ≤ (pairs xs ys : Int) ∧ xs.length ≤ 11 ∧ ys.length ≤ 11 := by
  simp only [certL, Bool.and_eq_true, decide_eq_true_eq] at hx hy
  obtain ⟨⟨h1, h2⟩, h3⟩ := hx
  obtain ⟨⟨_, h4⟩, h5⟩ := hy
  obtain ⟨a1, a2⟩ := cert_range h3
  obtain ⟨b1, b2⟩ := cert_range h5
  have g := pairs_ge xs ys a2 b2
  have hq := quo_yes h1
  have hf := fau_three h1
  have h5' := fau_five (n := n)
  have hl := nodup_len n.toNat (((xs.map (·.1)).filter (fun i => !(ys.map (·.1)).contains i)) ++ ys.map (·.1)) (fun i hi => by
      rcases List.mem_append.1 hi with e | e
      · have := a1 i (List.mem_filter.1 e).1; omega
      · have := b1 i e; omega)
    (List.nodup_append.2 ⟨a2.filter _, b2, fun i hi j hj e => by
      have h6 := (List.mem_filter.1 hi).2
      rw [← e] at hj
      simp only [Bool.not_eq_true', List.contains_eq_mem, decide_eq_false_iff_not] at h6
      exact h6 hj⟩)
  rw [List.length_append, List.length_map] at hl
  refine ⟨h1, by omega, by omega, by omega⟩
end Go.Proofs.YthnjeglfgfjpkabDoor
