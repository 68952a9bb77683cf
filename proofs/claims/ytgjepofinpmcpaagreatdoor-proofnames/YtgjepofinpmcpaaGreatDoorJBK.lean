/- What the bound of an upto statement gives. -/
import Derived.Test.YtgjepofinpmcpaaGreatDoorJBI
import Derived.Test.YtgjepofinpmcpaaGreatDoorJAS
import Derived.Test.YtgjepofinpmcpaaGreatDoorRows
import Derived.Test.YtgjepofinpmcpaaGreatDoorJAT
import Derived.Test.YtgjepofinpmcpaaGreatDoorJAC
section
set_option linter.unusedVariables false
set_option linter.unusedSimpArgs false
namespace Go.Proofs.YtgjepofinpmcpaaGreatDoor
open Go.RowKit Oct Kvl

/-- Is it the signature of the accused for this body? -/
def vtd (m : PMsg) (r : PReq) (g : List Int) : Bool := rgtV m.idx m.bal.1 m.bal.2 m.slot r (m.frm, g)
def shw (m : PMsg) : Bool := decide (cmpL (body m.req) (body m.oth) < 0) && vtd m m.req m.sig && vtd m m.oth m.data
def may (m : PMsg) (n : Int) : Bool := decide (m.kind = 13) && Bal.rgt n && decide (0 ≤ m.frm) && decide (m.frm < n) && (decide (m.idx = 2) || decide (m.idx = 3))
def chkL (l : List Int) (n : Int) : Bool := decide (decE l = 0) && may (decM l) n && shw (decM l)
def chkW (l : List Int) (n : Int) : Int := if chkL l n = true then (decM l).frm else 0
def chkE (l : List Int) (n : Int) : Int := if chkL l n = true then 0 else 161
theorem chk_no {l : List Int} {n : Int} (h : chkL l n = false) : chkW l n = 0 ∧ chkE l n = 161 := by unfold chkW chkE; rw [h]; exact ⟨rfl, rfl⟩
theorem chk_yes {l : List Int} {n : Int} (h : chkL l n = true) : chkW l n = (decM l).frm ∧ chkE l n = 0 := by unfold chkW chkE; rw [h]; exact ⟨rfl, rfl⟩
theorem dec_two (l : List Int) (hb : Byt l) : (decE l ≠ 0 ∧ decM l = zeroM) ∨ (decE l = 0 ∧ badM (decM l) = false ∧ byM (decM l) = l ∧ l.length ≤ 1048576) := by
  unfold decM decE
  by_cases hl : 1048576 < l.length
  · simp [hl]
  · simp only [if_neg hl]
    cases hr : rdM l with
    | none => left; simp
    | some m =>
      obtain ⟨h1, h2⟩ := rdM_bwd hb hr
      exact .inr ⟨by simp, h1, h2, by omega⟩
/-- Texts of a message that can be written are short. -/
theorem bad_short {m : PMsg} (h : badM m = false) : (m.req.2.2.1.length ≤ 65536 ∧ m.req.2.2.2.length ≤ 65536) ∧ (m.oth.2.2.1.length ≤ 65536 ∧ m.oth.2.2.2.length ≤ 65536) ∧ m.data.length ≤ 65536 ∧ m.sig.length ≤ 65536 := by
  obtain ⟨_, h1, h2⟩ := badM_no h
  refine ⟨?_, ?_, ?_, ?_⟩
  · by_cases hi : 6 ∈ fl m.kind
    · have := h2 6 hi
      simp [okF, cF, Oct.get, tag, freq, unR, cReq, cP, cT, cN] at this
      omega
    · have := h1 6 (by decide) hi
      simp [Oct.get, freq, zeroM] at this
      rw [this]
      simp
  · by_cases hi : 7 ∈ fl m.kind
    · have := h2 7 hi
      simp [okF, cF, Oct.get, tag, freq, unR, cReq, cP, cT, cN] at this
      omega
    · have := h1 7 (by decide) hi
      simp [Oct.get, freq, zeroM] at this
      rw [this]
      simp
  · by_cases hi : 8 ∈ fl m.kind
    · have := h2 8 hi
      simp [okF, cF, Oct.get, tag, ftxt, unT, cT] at this
      omega
    · have := h1 8 (by decide) hi
      simp [Oct.get, ftxt, zeroM] at this
      rw [this]
      simp
  · by_cases hi : 9 ∈ fl m.kind
    · have := h2 9 hi
      simp [okF, cF, Oct.get, tag, ftxt, unT, cT] at this
      omega
    · have := h1 9 (by decide) hi
      simp [Oct.get, ftxt, zeroM] at this
      rw [this]
      simp
/-- What was read is short. -/
theorem dec_short {l : List Int} (hb : Byt l) (h0 : decE l = 0) : tot [(decM l).req.2.2.1, (decM l).req.2.2.2] ≤ 2000000 ∧ tot [(decM l).oth.2.2.1, (decM l).oth.2.2.2] ≤ 2000000 := by
  rcases dec_two l hb with ⟨h, _⟩ | ⟨_, h, _, _⟩
  · exact absurd h0 h
  · obtain ⟨h1, h2, _, _⟩ := bad_short h
    simp only [tot]
    omega
end Go.Proofs.YtgjepofinpmcpaaGreatDoor
end

section
namespace Go.Proofs.YtgjepofinpmcpaaGreatDoor
open Go.ChangeShapes Go.RowKit Oct

theorem bulk_one {H : Type} (d : DataW H) : 1 ≤ Rows.uptoBulk d := by
  cases d with
  | lit l => cases l <;> simp [Rows.uptoBulk]
  | nil => simp [Rows.uptoBulk]
  | ptr d => simp [Rows.uptoBulk]
  | slice elems spare => simp [Rows.uptoBulk]
  | agg parts => simp [Rows.uptoBulk]
  | iface t d => simp [Rows.uptoBulk]
  | map entries => simp [Rows.uptoBulk]
  | held h => simp [Rows.uptoBulk]
theorem bulk_part {H : Type} {d : DataW H} {l : List (DataW H)} (h : d ∈ l) : Rows.uptoBulk d ≤ Rows.uptoBulkAll l := by
  induction l with
  | nil => cases h
  | cons x r ih =>
    simp only [Rows.uptoBulkAll]
    cases List.mem_cons.1 h with
    | inl e => subst e; omega
    | inr e => have := ih e; omega
theorem bulk_len {H : Type} (l : List (DataW H)) : l.length ≤ Rows.uptoBulkAll l := by
  induction l with
  | nil => simp [Rows.uptoBulkAll]
  | cons x r ih => have := bulk_one x; simp only [Rows.uptoBulkAll, List.length_cons]; omega
theorem bulk_bytes {H : Type} {d : DataW H} {l : List Int} (h : IsBytes d l) : l.length + 1 ≤ Rows.uptoBulk d := by
  rcases h with ⟨rfl, rfl⟩ | ⟨sp, rfl⟩
  · simp [Rows.uptoBulk]
  · have h1 := bulk_len (H := H) (lits .u8 l)
    simp only [lits, List.length_map] at h1
    simp only [Rows.uptoBulk, lits]
    omega
theorem bulk_all {H : Type} {l : List (DataW H)} (hk : Rows.uptoSmall H l = true) : Rows.uptoBulkAll l ≤ 1048576 := of_decide_eq_true hk
/-- Each of the arguments. -/
theorem bulk_bytes_in {H : Type} {l : List (DataW H)} (hk : Rows.uptoSmall H l = true) {d : DataW H} {b : List Int} (h : IsBytes d b) (hd : d ∈ l) : b.length ≤ 1048576 := by
  have h1 := bulk_all hk
  have h2 := bulk_part hd
  have h3 := bulk_bytes h
  omega
theorem bulk_list {H : Type} : ∀ {ds : List (DataW H)} {ll : List (List Int)}, All2 IsBytes ds ll → tot ll ≤ Rows.uptoBulkAll ds
  | [], [], _ => Nat.zero_le _
  | d :: ds, l :: ll, h => by
    have h1 := bulk_bytes h.1
    have h2 := bulk_list h.2
    simp only [tot, Rows.uptoBulkAll]
    omega
  | [], _ :: _, h => h.elim
  | _ :: _, [], h => h.elim
theorem bulk_bytess {H : Type} {d : DataW H} {ll : List (List Int)} (h : IsBytess d ll) : tot ll + 1 ≤ Rows.uptoBulk d := by
  rcases h with ⟨rfl, rfl⟩ | ⟨ds, sp, rfl, h⟩
  · simp [Rows.uptoBulk, tot]
  · have := bulk_list h
    simp only [Rows.uptoBulk]
    omega
theorem bulk_bytess_in {H : Type} {l : List (DataW H)} (hk : Rows.uptoSmall H l = true) {d : DataW H} {b : List (List Int)} (h : IsBytess d b) (hd : d ∈ l) : tot b ≤ 1048576 := by
  have h1 := bulk_all hk
  have h2 := bulk_part hd
  have h3 := bulk_bytess h
  omega
end Go.Proofs.YtgjepofinpmcpaaGreatDoor
end
