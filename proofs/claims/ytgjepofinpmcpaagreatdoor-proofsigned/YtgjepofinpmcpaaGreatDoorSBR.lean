/- Proofs of misbehaviour, plain: what Check makes of bytes. -/
import Derived.Test.YtgjepofinpmcpaaGreatDoorSBQ
import Derived.Test.YtgjepofinpmcpaaGreatDoorSAC
set_option linter.unusedSimpArgs false
set_option linter.unusedVariables false
namespace Go.Proofs.YtgjepofinpmcpaaGreatDoor
open Go.RowKit Oct Kvl
/-- Is it the signature of the accused for this body? -/
def vtd (m : PMsg) (r : PReq) (g : List Int) : Bool := rgtV m.idx m.bal.1 m.bal.2 m.slot r (m.frm, g)
def shw (m : PMsg) : Bool := decide (cmpL (body m.req) (body m.oth) < 0) && vtd m m.req m.sig && vtd m m.oth m.data
def may (m : PMsg) (n : Int) : Bool := decide (m.kind = 13) && Bal.rgt n && decide (0 ≤ m.frm) && decide (m.frm < n) && (decide (m.idx = 2) || decide (m.idx = 3))
def chkL (l : List Int) (n : Int) : Bool := decide (decE l = 0) && may (decM l) n && shw (decM l)
def chkW (l : List Int) (n : Int) : Int := if chkL l n = true then (decM l).frm else 0
def chkE (l : List Int) (n : Int) : Int := if chkL l n = true then 0 else 161
theorem chk_no {l : List Int} {n : Int} (h : chkL l n = false) : chkW l n = 0 ∧ chkE l n = 161 := by unfold chkW chkE; rw [h]; exact ⟨rfl, rfl⟩
theorem chk_yes {l : List Int} {n : Int} (h : chkL l n = true) : chkW l n = (decM l).frm ∧ chkE l n = 0 := by unfold chkW chkE; rw [h]; exact ⟨rfl, rfl⟩
theorem dec_two (l : List Int) (hb : Byt l) : (decE l ≠ 0 ∧ decM l = zeroM) ∨ (decE l = 0 ∧ badM (decM l) = false ∧ byM (decM l) = l ∧ l.length ≤ 1048576) := by
  unfold decM decE
  by_cases hl : 1048576 < l.length
  · simp [hl]
  · simp only [if_neg hl]
    cases hr : rdM l with
    | none => left; simp
    | some m =>
      obtain ⟨h1, h2⟩ := rdM_bwd hb hr
      exact .inr ⟨by simp, h1, h2, by omega⟩
/-- Texts of a message that can be written are short. -/
theorem bad_short {m : PMsg} (h : badM m = false) : (m.req.2.2.1.length ≤ 65536 ∧ m.req.2.2.2.length ≤ 65536) ∧ (m.oth.2.2.1.length ≤ 65536 ∧ m.oth.2.2.2.length ≤ 65536) ∧ m.data.length ≤ 65536 ∧ m.sig.length ≤ 65536 := by
  obtain ⟨_, h1, h2⟩ := badM_no h
  refine ⟨?_, ?_, ?_, ?_⟩
  · by_cases hi : 6 ∈ fl m.kind
    · have := h2 6 hi
      simp [okF, cF, Oct.get, tag, freq, unR, cReq, cP, cT, cN] at this
      omega
    · have := h1 6 (by decide) hi
      simp [Oct.get, freq, zeroM] at this
      rw [this]
      simp
  · by_cases hi : 7 ∈ fl m.kind
    · have := h2 7 hi
      simp [okF, cF, Oct.get, tag, freq, unR, cReq, cP, cT, cN] at this
      omega
    · have := h1 7 (by decide) hi
      simp [Oct.get, freq, zeroM] at this
      rw [this]
      simp
  · by_cases hi : 8 ∈ fl m.kind
    · have := h2 8 hi
      simp [okF, cF, Oct.get, tag, ftxt, unT, cT] at this
      omega
    · have := h1 8 (by decide) hi
      simp [Oct.get, ftxt, zeroM] at this
      rw [this]
      simp
  · by_cases hi : 9 ∈ fl m.kind
    · have := h2 9 hi
      simp [okF, cF, Oct.get, tag, ftxt, unT, cT] at this
      omega
    · have := h1 9 (by decide) hi
      simp [Oct.get, ftxt, zeroM] at this
      rw [this]
      simp
/-- What was read is short. -/
theorem dec_short {l : List Int} (hb : Byt l) (h0 : decE l = 0) : tot [(decM l).req.2.2.1, (decM l).req.2.2.2] ≤ 2000000 ∧ tot [(decM l).oth.2.2.1, (decM l).oth.2.2.2] ≤ 2000000 := by
  rcases dec_two l hb with ⟨h, _⟩ | ⟨_, h, _, _⟩
  · exact absurd h0 h
  · obtain ⟨h1, h2, _, _⟩ := bad_short h
    simp only [tot]
    omega
end Go.Proofs.YtgjepofinpmcpaaGreatDoor
