/- Ballots compared, beside texts. -/
import Derived.Test.YtgbfmccecnfooaaGreatDoorCLAE
import Derived.Test.YtgbfmccecnfooaaGreatDoorCLAU
import Derived.Test.YtgbfmccecnfooaaGreatDoorCLAB
import Derived.WalkSpells
import Derived.WalkLawsBesides
import Derived.KernelRfl
import Derived.Deep.QuietTactic
set_option linter.unusedVariables false
namespace Go.Proofs.YtgbfmccecnfooaaGreatDoor
section
open Go.RowKit Oct Bal
def lowS (m : Int) (r : PRep) : Int := if m < r.2.2.1 then r.2.2.1 else m
def lowR (rs : List PRep) : Int := rs.foldl lowS 0
def higS (m : Int) (p : PPrep) : Int := if m < p.1 then p.1 else m
def higR (rs : List PRep) : Int := rs.foldl (fun m r => r.2.2.2.2.2.1.foldl higS m) (lowR rs)
/-- Does a Prep go ahead of what was found? -/
def bea (o : Option PPrep) (p : PPrep) : Bool := match o with | none => true | some q => decide (0 < cmp2 p.2.1.1 p.2.1.2 q.2.1.1 q.2.1.2)
def pkS (k : Int) (o : Option PPrep) (p : PPrep) : Option PPrep := if decide (p.1 = k) && bea o p then some p else o
def pkL (k : Int) (o : Option PPrep) (ps : List PPrep) : Option PPrep := ps.foldl (pkS k) o
def pkR (k : Int) (rs : List PRep) : Option PPrep := rs.foldl (fun o r => pkL k o r.2.2.2.2.2.1) none
def qz : PReq := (0, 0, [], [])
def reqO (o : Option PPrep) : PReq := match o with | none => qz | some p => p.2.2.1
def cntR (rs : List PRep) : Nat := (min (higR rs - lowR rs) 16).toNat
def picksR (rs : List PRep) (n : Nat) : List PReq := (List.range n).map fun i : Nat => reqO (pkR (lowR rs + 1 + (i : Int)) rs)
theorem foldl_take {α β : Type} {f : β → α → β} {b : β} {l : List α} {n : Nat} {x : α} (h : l[n]? = some x) : (l.take (n + 1)).foldl f b = f ((l.take n).foldl f b) x := by
  rw [List.take_add_one, h, List.foldl_append]
  rfl
theorem low_le : ∀ (rs : List PRep) (m : Int), m ≤ rs.foldl lowS m
  | [], m => Int.le_refl _
  | r :: rs, m => by
    have h := low_le rs (lowS m r)
    have : m ≤ lowS m r := by unfold lowS; split <;> omega
    exact Int.le_trans this h
theorem hig_le : ∀ (ps : List PPrep) (m : Int), m ≤ ps.foldl higS m
  | [], m => Int.le_refl _
  | p :: ps, m => by
    have h := hig_le ps (higS m p)
    have : m ≤ higS m p := by unfold higS; split <;> omega
    exact Int.le_trans this h
theorem higR_le (rs : List PRep) : lowR rs ≤ higR rs := by
  unfold higR
  generalize lowR rs = m
  induction rs generalizing m with
  | nil => exact Int.le_refl _
  | cons r rs ih => exact Int.le_trans (hig_le _ _) (ih _)
theorem lowR_nn (rs : List PRep) : 0 ≤ lowR rs := low_le rs 0
/-- The numbers that a report may hold. -/
def i64C (n : Int) : Prop := -9223372036854775808 ≤ n ∧ n ≤ 9223372036854775807
def bdR (r : PRep) : Prop := i64C r.2.2.1 ∧ ∀ p ∈ r.2.2.2.2.2.1, i64C p.1
theorem low_bd : ∀ {rs : List PRep} {m : Int}, i64C m → (∀ r ∈ rs, bdR r) → i64C (rs.foldl lowS m)
  | [], m, hm, _ => hm
  | r :: rs, m, hm, h => low_bd (rs := rs) (m := lowS m r) (by unfold lowS; split; exact (h r (by simp)).1; exact hm) (fun x hx => h x (by simp [hx]))
theorem hig_bd : ∀ {ps : List PPrep} {m : Int}, i64C m → (∀ p ∈ ps, i64C p.1) → i64C (ps.foldl higS m)
  | [], m, hm, _ => hm
  | p :: ps, m, hm, h => hig_bd (ps := ps) (m := higS m p) (by unfold higS; split; exact h p (by simp); exact hm) (fun x hx => h x (by simp [hx]))
theorem lowR_bd {rs : List PRep} (h : ∀ r ∈ rs, bdR r) : i64C (lowR rs) := low_bd ⟨by decide, by decide⟩ h
theorem higR_bd {rs : List PRep} (h : ∀ r ∈ rs, bdR r) : i64C (higR rs) := by
  unfold higR
  have hm := lowR_bd h
  generalize lowR rs = m at *
  induction rs generalizing m with
  | nil => exact hm
  | cons r rs ih => exact ih (fun x hx => h x (by simp [hx])) _ (hig_bd hm (h r (by simp)).2)
theorem picksR_succ (rs : List PRep) (n : Nat) : picksR rs (n + 1) = picksR rs n ++ [reqO (pkR (lowR rs + 1 + (n : Int)) rs)] := by
  unfold picksR
  rw [List.range_succ, List.map_append]
  rfl
theorem picksR_len (rs : List PRep) (n : Nat) : (picksR rs n).length = n := by unfold picksR; simp
end
section
open Go.RowKit Oct Bal
theorem isNaNB_any (w : World) (x : Int) : Calls Tryz.prog 105 #[.int .i64 x] w fun e w' => e = .returned (.bool false) ∧ w' = w := by
  have hne : (x != x) = false := by simp
  go_enter Tryz.func105, Tryz.ntmps105
  go_wp2_with fail
  go_ret
  exact ⟨rfl, rfl⟩
theorem cmpIntB_any (w : World) (x y : Int) : Calls Tryz.prog 79 #[.int .i64 x, .int .i64 y] w fun e w' => e = .returned (.int .i64 (cm x y)) ∧ w' = w := by
  by_cases h : x < y
  · rw [cm, if_pos h]
    go_enter Tryz.func79, Tryz.ntmps79
    go_wp2_with (go_at_call 105; refine (isNaNB_any _ _).mono ?_; rintro e w' ⟨rfl, rfl⟩)
    go_ret
    exact ⟨rfl, rfl⟩
  by_cases h2 : y < x
  · rw [cm, if_neg h, if_pos h2]
    go_enter Tryz.func79, Tryz.ntmps79
    go_wp2_with (go_at_call 105; refine (isNaNB_any _ _).mono ?_; rintro e w' ⟨rfl, rfl⟩)
    go_ret
    exact ⟨rfl, rfl⟩
  · rw [cm, if_neg h, if_neg h2]
    go_enter Tryz.func79, Tryz.ntmps79
    go_wp2_with (go_at_call 105; refine (isNaNB_any _ _).mono ?_; rintro e w' ⟨rfl, rfl⟩)
    go_ret
    exact ⟨rfl, rfl⟩
/-- A ballot as a value. -/
abbrev bal (v t : Int) : Value := .agg #[.int .i64 v, .int .i64 t]
theorem compareB_any (w : World) (a b c d : Int) : Calls Tryz.prog 82 #[bal a b, bal c d] w fun e w' => e = .returned (.int .i64 (cmp2 a b c d)) ∧ Below w.heap.size w w' := by
  by_cases h : a = c
  · rw [cmp2, if_pos h]
    subst h
    have hne : (a != a) = false := by simp
    have hC := fun W => cmpIntB_any W b d
    have HC := (show Hid (∀ W, _) from hC)
    clear hC
    generalize cm b d = r at *
    go_enter Tryz.func82, Tryz.ntmps82
    go_wp2_with (go_at_call 79; refine (HC.out _).mono ?_; rintro e w' ⟨rfl, rfl⟩)
    go_ret
    exact ⟨rfl, below_and (below_alloc _ _) (Nat.le_refl _) (below_alloc _ _)⟩
  · rw [cmp2, if_neg h]
    have hne : (a != c) = true := by simpa using h
    have hC := fun W => cmpIntB_any W a c
    have HC := (show Hid (∀ W, _) from hC)
    clear hC
    generalize cm a c = r at *
    go_enter Tryz.func82, Tryz.ntmps82
    go_wp2_with (go_at_call 79; refine (HC.out _).mono ?_; rintro e w' ⟨rfl, rfl⟩)
    go_ret
    exact ⟨rfl, below_and (below_alloc _ _) (Nat.le_refl _) (below_alloc _ _)⟩
theorem cmp2_lt {a c : Int} (b d : Int) (h : a < c) : cmp2 a b c d = -1 := by rw [cmp2, if_neg (by omega), cm, if_pos h]
theorem cmp2_gt {a c : Int} (b d : Int) (h : c < a) : cmp2 a b c d = 1 := by rw [cmp2, if_neg (by omega), cm, if_neg (by omega), if_pos h]
theorem refCompareB_any (w : World) (a b c d : Int) : Calls Tryz.prog 37 #[bal a b, bal c d] w fun e w' => e = .returned (.int .i64 (cmp2 a b c d)) ∧ Below w.heap.size w w' := by
  by_cases h1 : a < c
  · rw [cmp2_lt b d h1]
    go_enter Tryz.func37, Tryz.ntmps37
    go_wp2_with fail
    go_ret
    exact ⟨rfl, below_and (below_alloc _ _) (Nat.le_refl _) (below_alloc _ _)⟩
  by_cases h2 : c < a
  · rw [cmp2_gt b d h2]
    go_enter Tryz.func37, Tryz.ntmps37
    go_wp2_with fail
    go_ret
    exact ⟨rfl, below_and (below_alloc _ _) (Nat.le_refl _) (below_alloc _ _)⟩
  obtain rfl : a = c := by omega
  clear h1 h2
  rw [cmp2, if_pos rfl]
  by_cases h1 : b < d
  · rw [cm, if_pos h1]
    go_enter Tryz.func37, Tryz.ntmps37
    go_wp2_with fail
    go_ret
    exact ⟨rfl, below_and (below_alloc _ _) (Nat.le_refl _) (below_alloc _ _)⟩
  by_cases h2 : d < b
  · rw [cm, if_neg h1, if_pos h2]
    go_enter Tryz.func37, Tryz.ntmps37
    go_wp2_with fail
    go_ret
    exact ⟨rfl, below_and (below_alloc _ _) (Nat.le_refl _) (below_alloc _ _)⟩
  · rw [cm, if_neg h1, if_neg h2]
    go_enter Tryz.func37, Tryz.ntmps37
    go_wp2_with fail
    go_ret
    exact ⟨rfl, below_and (below_alloc _ _) (Nat.le_refl _) (below_alloc _ _)⟩
end
end Go.Proofs.YtgbfmccecnfooaaGreatDoor
