/- Messages, plain: their bytes, and how they are read. -/
import Derived.Test.YtgpkngiakhdmhaaDoorSBAL
namespace Go.Proofs.YtgpkngiakhdmhaaDoor
namespace Oct
structure PMsg where
  kind : Int
  bal : PBal
  slot : Int
  frm : Int
  to : Int
  idx : Int
  cnt : Int
  req : PReq
  oth : PReq
  data : List Int
  sig : List Int
  cert : List PVote
  votes : List PVote
  order : List Int
  picks : List PReq
  reps : List PRep
def zeroM : PMsg := ⟨0, (0, 0), 0, 0, 0, 0, 0, (0, 0, [], []), (0, 0, [], []), [], [], [], [], [], [], []⟩
/-- What stands in a field. -/
abbrev FV := PBal ⊕ Int ⊕ PReq ⊕ List Int ⊕ List PVote ⊕ List Int ⊕ List PReq ⊕ List PRep
def fbal (x : PBal) : FV := (.inl x)
def fnum (x : Int) : FV := (.inr (.inl x))
def freq (x : PReq) : FV := (.inr (.inr (.inl x)))
def ftxt (x : List Int) : FV := (.inr (.inr (.inr (.inl x))))
def fvotes (x : List PVote) : FV := (.inr (.inr (.inr (.inr (.inl x)))))
def fints (x : List Int) : FV := (.inr (.inr (.inr (.inr (.inr (.inl x))))))
def freqs (x : List PReq) : FV := (.inr (.inr (.inr (.inr (.inr (.inr (.inl x)))))))
def freps (x : List PRep) : FV := (.inr (.inr (.inr (.inr (.inr (.inr (.inr x)))))))
def unB : FV → Option PBal | (.inl b) => some b | _ => none
def unN : FV → Option Int | (.inr (.inl n)) => some n | _ => none
def unR : FV → Option PReq | (.inr (.inr (.inl r))) => some r | _ => none
def unT : FV → Option (List Int) | (.inr (.inr (.inr (.inl t)))) => some t | _ => none
def unV : FV → Option (List PVote) | (.inr (.inr (.inr (.inr (.inl t))))) => some t | _ => none
def unI : FV → Option (List Int) | (.inr (.inr (.inr (.inr (.inr (.inl t)))))) => some t | _ => none
def unQ : FV → Option (List PReq) | (.inr (.inr (.inr (.inr (.inr (.inr (.inl t))))))) => some t | _ => none
def unP : FV → Option (List PRep) | (.inr (.inr (.inr (.inr (.inr (.inr (.inr t))))))) => some t | _ => none
def tag {α : Type} (c : Cdc α) (mk : α → FV) (un : FV → Option α) : Cdc FV :=
  ⟨fun v => match un v with | some a => c.ok a | none => false, fun v => match un v with | some a => c.wr a | none => [], fun l => (c.rd l).map fun x => (mk x.1, x.2)⟩
theorem tag_law {α : Type} {c : Cdc α} {mk : α → FV} {un : FV → Option α} (h : c.Law) (hu : ∀ a, un (mk a) = some a) (hm : ∀ v a, un v = some a → v = mk a) : (tag c mk un).Law where
  fwd v r ho := by
    simp only [tag] at ho ⊢
    cases hv : un v with
    | none => rw [hv] at ho; cases ho
    | some a =>
      rw [hv] at ho
      simp only [] at ho ⊢
      rw [h.fwd a r ho, hm v a hv]
      rfl
  bwd l v r hl e := by
    simp only [tag] at e ⊢
    cases h1 : c.rd l with
    | none => rw [h1] at e; cases e
    | some x =>
      obtain ⟨a, l1⟩ := x
      rw [h1] at e
      simp only [Option.map_some, Option.some.injEq, Prod.mk.injEq] at e
      obtain ⟨rfl, rfl⟩ := e
      rw [hu a]
      exact h.bwd l a l1 hl h1
theorem tag_typ {α : Type} {c : Cdc α} {mk : α → FV} {un : FV → Option α} {l : List Int} {v : FV} {r : List Int} (hu : ∀ a, un (mk a) = some a) (e : (tag c mk un).rd l = some (v, r)) : (un v).isSome = true := by
  simp only [tag] at e
  obtain ⟨x, _, e⟩ := Option.map_eq_some_iff.1 e
  injection e with e1 _
  rw [← e1, hu]
  rfl
def cI : Cdc (List Int) := cL cN
def cF : Nat → Cdc FV
  | 0 => tag cBal fbal unB
  | 1 => tag cN fnum unN
  | 2 => tag cN fnum unN
  | 3 => tag cN fnum unN
  | 4 => tag cN fnum unN
  | 5 => tag cN fnum unN
  | 6 => tag cReq freq unR
  | 7 => tag cReq freq unR
  | 8 => tag cT ftxt unT
  | 9 => tag cT ftxt unT
  | 10 => tag (cL cVote) fvotes unV
  | 11 => tag (cL cVote) fvotes unV
  | 12 => tag cI fints unI
  | 13 => tag (cL cReq) freqs unQ
  | _ => tag (cL cRep) freps unP
def typ : Nat → FV → Bool
  | 0, v => (unB v).isSome
  | 1, v => (unN v).isSome
  | 2, v => (unN v).isSome
  | 3, v => (unN v).isSome
  | 4, v => (unN v).isSome
  | 5, v => (unN v).isSome
  | 6, v => (unR v).isSome
  | 7, v => (unR v).isSome
  | 8, v => (unT v).isSome
  | 9, v => (unT v).isSome
  | 10, v => (unV v).isSome
  | 11, v => (unV v).isSome
  | 12, v => (unI v).isSome
  | 13, v => (unQ v).isSome
  | _, v => (unP v).isSome
def get (m : PMsg) : Nat → FV
  | 0 => fbal m.bal
  | 1 => fnum m.slot
  | 2 => fnum m.frm
  | 3 => fnum m.to
  | 4 => fnum m.idx
  | 5 => fnum m.cnt
  | 6 => freq m.req
  | 7 => freq m.oth
  | 8 => ftxt m.data
  | 9 => ftxt m.sig
  | 10 => fvotes m.cert
  | 11 => fvotes m.votes
  | 12 => fints m.order
  | 13 => freqs m.picks
  | _ => freps m.reps
def set (m : PMsg) : Nat → FV → PMsg
  | 0, (.inl b) => { m with bal := b }
  | 1, (.inr (.inl n)) => { m with slot := n }
  | 2, (.inr (.inl n)) => { m with frm := n }
  | 3, (.inr (.inl n)) => { m with to := n }
  | 4, (.inr (.inl n)) => { m with idx := n }
  | 5, (.inr (.inl n)) => { m with cnt := n }
  | 6, (.inr (.inr (.inl r))) => { m with req := r }
  | 7, (.inr (.inr (.inl r))) => { m with oth := r }
  | 8, (.inr (.inr (.inr (.inl t)))) => { m with data := t }
  | 9, (.inr (.inr (.inr (.inl t)))) => { m with sig := t }
  | 10, (.inr (.inr (.inr (.inr (.inl l))))) => { m with cert := l }
  | 11, (.inr (.inr (.inr (.inr (.inl l))))) => { m with votes := l }
  | 12, (.inr (.inr (.inr (.inr (.inr (.inl l)))))) => { m with order := l }
  | 13, (.inr (.inr (.inr (.inr (.inr (.inr (.inl l))))))) => { m with picks := l }
  | 14, (.inr (.inr (.inr (.inr (.inr (.inr (.inr l))))))) => { m with reps := l }
  | _, _ => m
theorem lt15 {i : Nat} (h : i < 15) : i = 0 ∨ i = 1 ∨ i = 2 ∨ i = 3 ∨ i = 4 ∨ i = 5 ∨ i = 6 ∨ i = 7 ∨ i = 8 ∨ i = 9 ∨ i = 10 ∨ i = 11 ∨ i = 12 ∨ i = 13 ∨ i = 14 := by omega
theorem cF_law {i : Nat} (h : i < 15) : (cF i).Law := by
  rcases lt15 h with rfl | rfl | rfl | rfl | rfl | rfl | rfl | rfl | rfl | rfl | rfl | rfl | rfl | rfl | rfl
  · exact tag_law cBal_law (fun _ => rfl) (fun v a e => by rcases v with x | x | x | x | x | x | x | x <;> simp [unB] at e <;> subst e <;> rfl)
  · exact tag_law cN_law (fun _ => rfl) (fun v a e => by rcases v with x | x | x | x | x | x | x | x <;> simp [unN] at e <;> subst e <;> rfl)
  · exact tag_law cN_law (fun _ => rfl) (fun v a e => by rcases v with x | x | x | x | x | x | x | x <;> simp [unN] at e <;> subst e <;> rfl)
  · exact tag_law cN_law (fun _ => rfl) (fun v a e => by rcases v with x | x | x | x | x | x | x | x <;> simp [unN] at e <;> subst e <;> rfl)
  · exact tag_law cN_law (fun _ => rfl) (fun v a e => by rcases v with x | x | x | x | x | x | x | x <;> simp [unN] at e <;> subst e <;> rfl)
  · exact tag_law cN_law (fun _ => rfl) (fun v a e => by rcases v with x | x | x | x | x | x | x | x <;> simp [unN] at e <;> subst e <;> rfl)
  · exact tag_law cReq_law (fun _ => rfl) (fun v a e => by rcases v with x | x | x | x | x | x | x | x <;> simp [unR] at e <;> subst e <;> rfl)
  · exact tag_law cReq_law (fun _ => rfl) (fun v a e => by rcases v with x | x | x | x | x | x | x | x <;> simp [unR] at e <;> subst e <;> rfl)
  · exact tag_law cT_law (fun _ => rfl) (fun v a e => by rcases v with x | x | x | x | x | x | x | x <;> simp [unT] at e <;> subst e <;> rfl)
  · exact tag_law cT_law (fun _ => rfl) (fun v a e => by rcases v with x | x | x | x | x | x | x | x <;> simp [unT] at e <;> subst e <;> rfl)
  · exact tag_law (cL_law cVote_law) (fun _ => rfl) (fun v a e => by rcases v with x | x | x | x | x | x | x | x <;> simp [unV] at e <;> subst e <;> rfl)
  · exact tag_law (cL_law cVote_law) (fun _ => rfl) (fun v a e => by rcases v with x | x | x | x | x | x | x | x <;> simp [unV] at e <;> subst e <;> rfl)
  · exact tag_law (cL_law cN_law) (fun _ => rfl) (fun v a e => by rcases v with x | x | x | x | x | x | x | x <;> simp [unI] at e <;> subst e <;> rfl)
  · exact tag_law (cL_law cReq_law) (fun _ => rfl) (fun v a e => by rcases v with x | x | x | x | x | x | x | x <;> simp [unQ] at e <;> subst e <;> rfl)
  · exact tag_law (cL_law cRep_law) (fun _ => rfl) (fun v a e => by rcases v with x | x | x | x | x | x | x | x <;> simp [unP] at e <;> subst e <;> rfl)
theorem cF_typ {i : Nat} (h : i < 15) {l r : List Int} {v : FV} (e : (cF i).rd l = some (v, r)) : typ i v = true := by
  rcases lt15 h with rfl | rfl | rfl | rfl | rfl | rfl | rfl | rfl | rfl | rfl | rfl | rfl | rfl | rfl | rfl <;> exact tag_typ (fun _ => rfl) e
theorem get_set (m : PMsg) {i : Nat} (h : i < 15) {v : FV} (ht : typ i v = true) : get (set m i v) i = v := by
  rcases lt15 h with rfl | rfl | rfl | rfl | rfl | rfl | rfl | rfl | rfl | rfl | rfl | rfl | rfl | rfl | rfl <;> rcases v with x | x | x | x | x | x | x | x <;> first | rfl | cases ht
theorem get_set_ne (m : PMsg) {i j : Nat} (h : i < 15) (hj : j < 15) (hn : j ≠ i) (v : FV) : get (set m i v) j = get m j := by
  rcases lt15 h with rfl | rfl | rfl | rfl | rfl | rfl | rfl | rfl | rfl | rfl | rfl | rfl | rfl | rfl | rfl <;> rcases v with x | x | x | x | x | x | x | x <;> first | rfl | (rcases lt15 hj with rfl | rfl | rfl | rfl | rfl | rfl | rfl | rfl | rfl | rfl | rfl | rfl | rfl | rfl | rfl <;> first | rfl | exact absurd rfl hn)
theorem kind_set (m : PMsg) (i : Nat) (v : FV) : (set m i v).kind = m.kind := by
  unfold set; split <;> rfl
/-- Which fields a kind has. -/
def fl (k : Int) : List Nat :=
  if k = 1 then [6] else if k = 2 then [0, 1, 6, 11] else if k = 3 then [0, 1, 6, 10, 11] else if k = 4 then [0, 1, 6, 11] else if k = 5 then [2, 3, 4, 8, 9] else if k = 6 then [0, 2, 3, 9]
  else if k = 7 then [0, 2, 3, 9, 10] else if k = 8 then [14] else if k = 9 then [0, 9, 12, 14] else if k = 10 then [1, 8, 11] else if k = 11 then [1, 2] else if k = 12 then [1, 2, 4, 5, 8, 9]
  else if k = 13 then [0, 1, 2, 4, 6, 7, 8, 9] else if k = 20 then [0] else if k = 21 then [0, 1, 12, 13] else if k = 22 then [0, 1, 6] else if k = 23 then [0, 1, 6, 10] else if k = 24 then [0, 1, 6, 11]
  else if k = 25 then [1, 8, 10] else []
theorem fl_cases (k : Int) : k = 1 ∨ k = 2 ∨ k = 3 ∨ k = 4 ∨ k = 5 ∨ k = 6 ∨ k = 7 ∨ k = 8 ∨ k = 9 ∨ k = 10 ∨ k = 11 ∨ k = 12 ∨ k = 13 ∨ k = 20 ∨ k = 21 ∨ k = 22 ∨ k = 23 ∨ k = 24 ∨ k = 25 ∨ fl k = [] := by
  by_cases h : 1 ≤ k ∧ k ≤ 25 ∧ ¬ (14 ≤ k ∧ k ≤ 19)
  · omega
  · have : fl k = [] := by
      unfold fl
      rw [if_neg (by omega), if_neg (by omega), if_neg (by omega), if_neg (by omega), if_neg (by omega), if_neg (by omega), if_neg (by omega), if_neg (by omega), if_neg (by omega), if_neg (by omega), if_neg (by omega), if_neg (by omega), if_neg (by omega), if_neg (by omega), if_neg (by omega), if_neg (by omega), if_neg (by omega), if_neg (by omega), if_neg (by omega)]
    simp [this]
/-- Fields without another of the same. -/
def nice : List Nat → Bool
  | [] => true
  | i :: r => decide (i < 15) && !r.contains i && nice r
theorem fl_nice (k : Int) : nice (fl k) = true := by
  rcases fl_cases k with h | h | h | h | h | h | h | h | h | h | h | h | h | h | h | h | h | h | h | h
  all_goals first | (subst h; decide) | (rw [h]; rfl)
def okF (m : PMsg) (i : Nat) : Bool := (cF i).ok (get m i)
def wrF (m : PMsg) (i : Nat) : List Int := (cF i).wr (get m i)
def zV : FV → Bool
  | (.inl b) => b.1 == 0 && b.2 == 0
  | (.inr (.inl n)) => n == 0
  | (.inr (.inr (.inl r))) => r.1 == 0 && r.2.1 == 0 && r.2.2.1.isEmpty && r.2.2.2.isEmpty
  | (.inr (.inr (.inr (.inl t)))) => t.isEmpty
  | (.inr (.inr (.inr (.inr (.inl t))))) => t.isEmpty
  | (.inr (.inr (.inr (.inr (.inr (.inl t)))))) => t.isEmpty
  | (.inr (.inr (.inr (.inr (.inr (.inr (.inl t))))))) => t.isEmpty
  | (.inr (.inr (.inr (.inr (.inr (.inr (.inr t))))))) => t.isEmpty
/-- Is there nothing in the field? -/
def zF (m : PMsg) (i : Nat) : Bool := zV (get m i)
theorem zF_iff (m : PMsg) {i : Nat} (h : i < 15) : zF m i = true ↔ get m i = get zeroM i := by
  rcases lt15 h with rfl | rfl | rfl | rfl | rfl | rfl | rfl | rfl | rfl | rfl | rfl | rfl | rfl | rfl | rfl <;> simp [zF, zV, get, zeroM, fbal, fnum, freq, ftxt, fvotes, fints, freqs, freps, Prod.ext_iff, and_assoc]
/-- Can't the message be written? -/
def badM (m : PMsg) : Bool := (fl m.kind).isEmpty || (List.range 15).any (fun i => !(fl m.kind).contains i && !zF m i) || (fl m.kind).any fun i => !okF m i
def wrFs (m : PMsg) (fs : List Nat) : List Int := (fs.map (wrF m)).flatten
theorem wrFs_cons (m : PMsg) (i : Nat) (fs : List Nat) : wrFs m (i :: fs) = wrF m i ++ wrFs m fs := by simp [wrFs]
def byM (m : PMsg) : List Int := outI m.kind ++ wrFs m (fl m.kind)
def rdFs : List Nat → PMsg → List Int → Option (PMsg × List Int)
  | [], m, l => some (m, l)
  | i :: fs, m, l => ((cF i).rd l).bind fun x => rdFs fs (set m i x.1) x.2
/-- A message at the head of a list. -/
def rdG (l : List Int) : Option (PMsg × List Int) := (cN.rd l).bind fun x => if (fl x.1).isEmpty = true then none else rdFs (fl x.1) { zeroM with kind := x.1 } x.2
def rdM (l : List Int) : Option PMsg := (rdG l).bind fun y => if y.2.isEmpty = true then some y.1 else none
theorem nice_cons {i : Nat} {fs : List Nat} (h : nice (i :: fs) = true) : i < 15 ∧ i ∉ fs ∧ nice fs = true := by
  simpa [nice, and_assoc] using h
theorem rdFs_bwd : ∀ (fs : List Nat) (m0 : PMsg) (l : List Int) (m : PMsg) (r : List Int), nice fs = true → Byt l → rdFs fs m0 l = some (m, r) →
    m.kind = m0.kind ∧ (∀ i ∈ fs, okF m i = true) ∧ l = wrFs m fs ++ r ∧ ∀ j, j < 15 → j ∉ fs → get m j = get m0 j
  | [], m0, l, m, r, _, _, e => by
    simp only [rdFs, Option.some.injEq, Prod.mk.injEq] at e
    obtain ⟨rfl, rfl⟩ := e
    simp [wrFs]
  | i :: fs, m0, l, m, r, hn, hl, e => by
    obtain ⟨h15, hni, hn'⟩ := nice_cons hn
    simp only [rdFs] at e
    cases h1 : (cF i).rd l with
    | none => rw [h1] at e; cases e
    | some x =>
      obtain ⟨v, l1⟩ := x
      rw [h1] at e
      simp only [Option.bind_some] at e
      obtain ⟨o1, e1⟩ := (cF_law h15).bwd l v l1 hl h1
      obtain ⟨k2, o2, e2, g2⟩ := rdFs_bwd fs (set m0 i v) l1 m r hn' (by rw [e1] at hl; exact hl.right) e
      have hgi : get m i = v := by rw [g2 i h15 hni, get_set m0 h15 (cF_typ h15 h1)]
      refine ⟨k2.trans (kind_set _ _ _), fun j hj => ?_, ?_, fun j hj hjn => ?_⟩
      · rcases List.mem_cons.1 hj with ej | ej
        · rw [ej]; unfold okF; rw [hgi]; exact o1
        · exact o2 j ej
      · rw [wrFs_cons, List.append_assoc, ← e2, e1]
        unfold wrF
        rw [hgi]
      · simp only [List.mem_cons, not_or] at hjn
        rw [g2 j hj hjn.2, get_set_ne m0 h15 hj hjn.1]
theorem badM_of {m : PMsg} (h1 : fl m.kind ≠ []) (h2 : ∀ i, i < 15 → i ∉ fl m.kind → get m i = get zeroM i) (h3 : ∀ i ∈ fl m.kind, okF m i = true) : badM m = false := by
  simp only [badM, Bool.or_eq_false_iff, List.isEmpty_eq_false_iff]
  refine ⟨⟨h1, ?_⟩, ?_⟩
  · rw [List.any_eq_false]
    intro i hi
    have hi := List.mem_range.1 hi
    by_cases hn : i ∈ fl m.kind
    · simp [hn]
    · have := (zF_iff m hi).2 (h2 i hi hn)
      simp [this]
  · rw [List.any_eq_false]
    intro i hi
    simp [h3 i hi]
theorem rdG_bwd {l : List Int} {m : PMsg} {r : List Int} (hl : Byt l) (e : rdG l = some (m, r)) : badM m = false ∧ l = byM m ++ r := by
  unfold rdG at e
  cases h1 : cN.rd l with
  | none => rw [h1] at e; cases e
  | some x =>
    obtain ⟨k, l1⟩ := x
    rw [h1] at e
    simp only [Option.bind_some] at e
    obtain ⟨o1, e1⟩ := cN_law.bwd l k l1 hl h1
    by_cases hc : (fl k).isEmpty = true
    · rw [if_pos hc] at e; cases e
    · rw [if_neg hc] at e
      obtain ⟨hk, ho, el, hg⟩ := rdFs_bwd (fl k) _ l1 m r (fl_nice _) (by rw [e1] at hl; exact hl.right) e
      have hk : m.kind = k := hk
      subst hk
      refine ⟨badM_of (by simpa using hc) (fun i hi hn => ?_) ho, ?_⟩
      · rw [hg i hi hn]
        rcases lt15 hi with rfl | rfl | rfl | rfl | rfl | rfl | rfl | rfl | rfl | rfl | rfl | rfl | rfl | rfl | rfl <;> rfl
      · unfold byM
        rw [List.append_assoc, ← el, e1]
        rfl
theorem rdM_bwd {l : List Int} {m : PMsg} (hl : Byt l) (e : rdM l = some m) : badM m = false ∧ byM m = l := by
  unfold rdM at e
  cases h1 : rdG l with
  | none => rw [h1] at e; cases e
  | some x =>
    obtain ⟨m', r⟩ := x
    rw [h1] at e
    simp only [Option.bind_some] at e
    by_cases hr : r.isEmpty = true
    · rw [if_pos hr] at e
      injection e with e
      subst e
      obtain ⟨h2, h3⟩ := rdG_bwd hl h1
      obtain rfl : r = [] := by simpa using hr
      exact ⟨h2, by rw [h3, List.append_nil]⟩
    · rw [if_neg hr] at e; cases e
#print axioms rdM_bwd
end Oct
end Go.Proofs.YtgpkngiakhdmhaaDoor
