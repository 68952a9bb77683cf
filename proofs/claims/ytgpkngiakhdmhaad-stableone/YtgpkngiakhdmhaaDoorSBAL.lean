/- Codecs, plain: what is written in just one way is read again. -/
import Derived.Test.YtgpkngiakhdmhaaDoorSBAF
namespace Go.Proofs.YtgpkngiakhdmhaaDoor
namespace Oct
/-- A way of writing: what may be written, its bytes, and how they are read from the head of a list. -/
structure Cdc (α : Type) where
  ok : α → Bool
  wr : α → List Int
  rd : List Int → Option (α × List Int)
structure Cdc.Law {α : Type} (c : Cdc α) : Prop where
  fwd : ∀ (a : α) (r : List Int), c.ok a = true → c.rd (c.wr a ++ r) = some (a, r)
  bwd : ∀ (l : List Int) (a : α) (r : List Int), Byt l → c.rd l = some (a, r) → c.ok a = true ∧ l = c.wr a ++ r
theorem Cdc.Law.inj {α : Type} {c : Cdc α} (h : c.Law) {a b : α} (ha : c.ok a = true) (hb : c.ok b = true) (e : c.wr a = c.wr b) : a = b := by
  have h1 := h.fwd a [] ha
  have h2 := h.fwd b [] hb
  rw [e, h2] at h1
  injection h1 with h3
  injection h3 with h4
  exact h4.symm
/-- Numbers. -/
def cN : Cdc Int := ⟨okI, outI, fun l => (num l).map fun nk => (nk.1, l.drop nk.2)⟩
theorem cN_law : cN.Law where
  fwd a r h := by
    have hb := okI_bd h
    show ((num (outI a ++ r)).map fun nk => (nk.1, (outI a ++ r).drop nk.2)) = _
    rw [outI_yes hb.1 hb.2, num_enc a r hb.1 hb.2]
    simp
  bwd l a r hl h := by
    simp only [cN] at h ⊢
    cases hn : num l with
    | none => rw [hn] at h; cases h
    | some nk =>
      obtain ⟨n, k⟩ := nk
      rw [hn] at h
      simp only [Option.map_some, Option.some.injEq, Prod.mk.injEq] at h
      obtain ⟨rfl, rfl⟩ := h
      obtain ⟨h0, h1, _, _, _, ht⟩ := num_some hl hn
      refine ⟨okI_yes h0 h1, ?_⟩
      rw [outI_yes h0 h1, ← ht, List.take_append_drop]
/-- Texts of at most 65536 bytes. -/
def cT : Cdc (List Int) := ⟨fun t => decide (t.length ≤ 65536), fun t => enc t.length ++ t,
  fun l => (num l).bind fun nk => if 65536 < nk.1 ∨ (l.length : Int) - nk.2 < nk.1 then none else some ((l.drop nk.2).take nk.1.toNat, (l.drop nk.2).drop nk.1.toNat)⟩
theorem cT_law : cT.Law where
  fwd a r h := by
    have hb : a.length ≤ 65536 := by simpa [cT] using h
    simp only [cT]
    rw [List.append_assoc, num_enc (a.length : Int) (a ++ r) (by omega) (by omega)]
    simp only [Option.bind_some, List.length_append]
    rw [if_neg (by omega)]
    simp
  bwd l a r hl h := by
    simp only [cT] at h ⊢
    cases hn : num l with
    | none => rw [hn] at h; cases h
    | some nk =>
      obtain ⟨n, k⟩ := nk
      rw [hn] at h
      simp only [Option.bind_some] at h
      obtain ⟨h0, h1, k1, k5, kl, ht⟩ := num_some hl hn
      by_cases hc : 65536 < n ∨ (l.length : Int) - k < n
      · rw [if_pos hc] at h; cases h
      · rw [if_neg hc] at h
        simp only [Option.some.injEq, Prod.mk.injEq] at h
        obtain ⟨rfl, rfl⟩ := h
        have hlen : ((l.drop k).take n.toNat).length = n.toNat := by rw [List.length_take, List.length_drop]; omega
        rw [hlen]
        refine ⟨by simp; omega, ?_⟩
        rw [show ((n.toNat : Nat) : Int) = n by omega, ← ht, List.append_assoc, List.take_append_drop, List.take_append_drop]
/-- One behind the other. -/
def cP {α β : Type} (c : Cdc α) (d : Cdc β) : Cdc (α × β) :=
  ⟨fun x => c.ok x.1 && d.ok x.2, fun x => c.wr x.1 ++ d.wr x.2, fun l => (c.rd l).bind fun x => (d.rd x.2).map fun y => ((x.1, y.1), y.2)⟩
theorem cP_law {α β : Type} {c : Cdc α} {d : Cdc β} (hc : c.Law) (hd : d.Law) : (cP c d).Law where
  fwd a r h := by
    simp only [cP, Bool.and_eq_true] at h ⊢
    rw [List.append_assoc, hc.fwd a.1 _ h.1]
    simp only [Option.bind_some]
    rw [hd.fwd a.2 r h.2]
    rfl
  bwd l a r hl h := by
    simp only [cP, Bool.and_eq_true] at h ⊢
    cases h1 : c.rd l with
    | none => rw [h1] at h; cases h
    | some x =>
      obtain ⟨x, l1⟩ := x
      rw [h1] at h
      simp only [Option.bind_some] at h
      obtain ⟨o1, e1⟩ := hc.bwd l x l1 hl h1
      cases h2 : d.rd l1 with
      | none => rw [h2] at h; cases h
      | some y =>
        obtain ⟨y, l2⟩ := y
        rw [h2] at h
        simp only [Option.map_some, Option.some.injEq, Prod.mk.injEq] at h
        obtain ⟨rfl, rfl⟩ := h
        obtain ⟨o2, e2⟩ := hd.bwd l1 y l2 (by rw [e1] at hl; exact hl.right) h2
        exact ⟨⟨o1, o2⟩, by rw [e1, e2, List.append_assoc]⟩
/-- So many, one behind the other. -/
def rdN {α : Type} (c : Cdc α) : Nat → List Int → Option (List α × List Int)
  | 0, l => some ([], l)
  | n + 1, l => (c.rd l).bind fun x => (rdN c n x.2).map fun y => (x.1 :: y.1, y.2)
def wrN {α : Type} (c : Cdc α) (as0 : List α) : List Int := (as0.map c.wr).flatten
theorem wrN_cons {α : Type} (c : Cdc α) (a : α) (as0 : List α) : wrN c (a :: as0) = c.wr a ++ wrN c as0 := by simp [wrN]
theorem rdN_fwd {α : Type} {c : Cdc α} (h : c.Law) : ∀ (as0 : List α) (r : List Int), as0.all c.ok = true → rdN c as0.length (wrN c as0 ++ r) = some (as0, r)
  | [], r, _ => by simp [rdN, wrN]
  | a :: as0, r, ho => by
    simp only [List.all_cons, Bool.and_eq_true] at ho
    simp only [List.length_cons, rdN]
    rw [wrN_cons, List.append_assoc, h.fwd a _ ho.1]
    simp only [Option.bind_some]
    rw [rdN_fwd h as0 r ho.2]
    rfl
theorem rdN_bwd {α : Type} {c : Cdc α} (h : c.Law) : ∀ (n : Nat) (l : List Int) (as0 : List α) (r : List Int), Byt l → rdN c n l = some (as0, r) → as0.all c.ok = true ∧ as0.length = n ∧ l = wrN c as0 ++ r
  | 0, l, as0, r, _, e => by
    simp only [rdN, Option.some.injEq, Prod.mk.injEq] at e
    obtain ⟨rfl, rfl⟩ := e
    simp [wrN]
  | n + 1, l, as0, r, hl, e => by
    simp only [rdN] at e
    cases h1 : c.rd l with
    | none => rw [h1] at e; cases e
    | some x =>
      obtain ⟨x, l1⟩ := x
      rw [h1] at e
      simp only [Option.bind_some] at e
      obtain ⟨o1, e1⟩ := h.bwd l x l1 hl h1
      cases h2 : rdN c n l1 with
      | none => rw [h2] at e; cases e
      | some y =>
        obtain ⟨y, l2⟩ := y
        rw [h2] at e
        simp only [Option.map_some, Option.some.injEq, Prod.mk.injEq] at e
        obtain ⟨rfl, rfl⟩ := e
        obtain ⟨o2, e2, e3⟩ := rdN_bwd h n l1 y l2 (by rw [e1] at hl; exact hl.right) h2
        exact ⟨by simp [o1, o2], by simp [e2], by rw [e1, e3, wrN_cons, List.append_assoc]⟩
/-- Lists of at most 64 items. -/
def cL {α : Type} (c : Cdc α) : Cdc (List α) :=
  ⟨fun as0 => decide (as0.length ≤ 64) && as0.all c.ok, fun as0 => outI as0.length ++ wrN c as0, fun l => (cN.rd l).bind fun x => if 64 < x.1 then none else rdN c x.1.toNat x.2⟩
theorem cL_law {α : Type} {c : Cdc α} (h : c.Law) : (cL c).Law where
  fwd as0 r ho := by
    simp only [cL, Bool.and_eq_true, decide_eq_true_eq] at ho ⊢
    rw [List.append_assoc]
    have h1 : cN.rd (outI (as0.length : Int) ++ (wrN c as0 ++ r)) = some ((as0.length : Int), wrN c as0 ++ r) := cN_law.fwd (as0.length : Int) _ (okI_yes (by omega) (by omega))
    rw [h1]
    simp only [Option.bind_some]
    rw [if_neg (by omega), Int.toNat_natCast, rdN_fwd h as0 r ho.2]
  bwd l as0 r hl e := by
    simp only [cL, Bool.and_eq_true, decide_eq_true_eq] at e ⊢
    cases h1 : cN.rd l with
    | none => rw [h1] at e; cases e
    | some x =>
      obtain ⟨n, l1⟩ := x
      rw [h1] at e
      simp only [Option.bind_some] at e
      obtain ⟨o1, e1⟩ := cN_law.bwd l n l1 hl h1
      have hn := okI_bd o1
      by_cases hc : 64 < n
      · rw [if_pos hc] at e; cases e
      · rw [if_neg hc] at e
        obtain ⟨o2, e2, e3⟩ := rdN_bwd h n.toNat l1 as0 r (by rw [e1] at hl; exact hl.right) e
        refine ⟨⟨by omega, o2⟩, ?_⟩
        rw [e2, show ((n.toNat : Nat) : Int) = n by omega, List.append_assoc, ← e3, e1]
        rfl
/-- What is read is the tail of what was there. -/
theorem Cdc.Law.tail {α : Type} {c : Cdc α} (h : c.Law) {l : List Int} {a : α} {r : List Int} (hl : Byt l) (e : c.rd l = some (a, r)) : r = l.drop (c.wr a).length := by
  obtain ⟨_, rfl⟩ := h.bwd l a r hl e
  simp
/-! The records. -/
abbrev PBal := Int × Int
abbrev PReq := Int × Int × List Int × List Int
abbrev PVote := Int × List Int
abbrev PPrep := Int × PBal × PReq × List PVote
abbrev PRep := PBal × Int × Int × List Int × List PVote × List PPrep × List Int
def cBal : Cdc PBal := cP cN cN
def cReq : Cdc PReq := cP cN (cP cN (cP cT cT))
def cVote : Cdc PVote := cP cN cT
def cPrep : Cdc PPrep := cP cN (cP cBal (cP cReq (cL cVote)))
def cRep : Cdc PRep := cP cBal (cP cN (cP cN (cP cT (cP (cL cVote) (cP (cL cPrep) cT)))))
theorem cBal_law : cBal.Law := cP_law cN_law cN_law
theorem cReq_law : cReq.Law := cP_law cN_law (cP_law cN_law (cP_law cT_law cT_law))
theorem cVote_law : cVote.Law := cP_law cN_law cT_law
theorem cPrep_law : cPrep.Law := cP_law cN_law (cP_law cBal_law (cP_law cReq_law (cL_law cVote_law)))
theorem cRep_law : cRep.Law := cP_law cBal_law (cP_law cN_law (cP_law cN_law (cP_law cT_law (cP_law (cL_law cVote_law) (cP_law (cL_law cPrep_law) cT_law)))))
end Oct
end Go.Proofs.YtgpkngiakhdmhaaDoor
