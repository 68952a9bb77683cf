/- What the ledger's laws share. -/
import Derived.Test.YtgjepofinpmcpaaGreatDoorJBQ
set_option linter.unusedVariables false
set_option linter.unusedSimpArgs false
namespace Go.Proofs.YtgjepofinpmcpaaGreatDoor
open Go.RowKit Oct Kvl

theorem toNMa {m : Nat} {w : World} (h : w.heap.size ≤ m) : Mv Any (NM m) w w := fun k _ hlt => ⟨rfl, fun e => by omega⟩
theorem szQ_tot {r : PReq} (h : tot [r.2.2.1, r.2.2.2] ≤ 2000000) : szQ r := by
  simp only [tot] at h
  exact ⟨by unfold szT; omega, by unfold szT; omega⟩
theorem copyQ_any (w : World) (o p : Value) (r : PReq) (t : RT Any w o r.2.2.1) (u : RT Any w p r.2.2.2) (hz : tot [r.2.2.1, r.2.2.2] ≤ 2000000) :
    Calls Tryz.prog 16 #[.agg #[.int .i64 r.1, .int .i64 r.2.1, o, p]] w fun e w' => ∃ ao co ap cp, e = .returned (.agg #[.int .i64 r.1, .int .i64 r.2.1, .slice ao r.2.2.1.length co, .slice ap r.2.2.2.length cp]) ∧
      RReq (From w.heap.size) w' [.int .i64 r.1, .int .i64 r.2.1, .slice ao r.2.2.1.length co, .slice ap r.2.2.2.length cp] r ∧ Below w.heap.size w w' := by
  refine (copyReq_any w [.int .i64 r.1, .int .i64 r.2.1, o, p] r ⟨_, _, rfl, t, u⟩ (szQ_tot hz)).mono ?_
  rintro e w' ⟨r', rfl, ⟨o', p', rfl, t', u'⟩, hb⟩
  obtain ⟨ao, co, rfl, _⟩ := t'.form
  obtain ⟨ap, cp, rfl, _⟩ := u'.form
  exact ⟨_, _, _, _, rfl, ⟨_, _, rfl, t', u'⟩, hb⟩
theorem below_drew (w : World) : Below w.heap.size w w.drew := ⟨rfl, rfl, rfl, Nat.le_refl _, fun _ _ => rfl⟩
/-- The first vote at a place. -/
theorem note_first {ls : List PSn} {x y s i : Int} {r : PReq} (h0 : 0 ≤ i) (h1 : i ≤ 15) (hf : fnd (2, x, y, s, i) (keysL ls) = none) (hl : ls.length < 8192) :
    noteL ls 2 x y s r [(i, sgn 2 x y s r i)] = (ls ++ [⟨(2, x, y, s, i), r, sgn 2 x y s r i, false⟩], []) := by
  rw [note_one (.inl rfl) (sgn_rgt _ _ _ _ _ h0 h1), meet_none hf, if_pos hl]
theorem note_same {ls : List PSn} {x y s i : Int} {r : PReq} (h0 : 0 ≤ i) (h1 : i ≤ 15) {j : Nat} {z : PSn} (hf : fnd (2, x, y, s, i) (keysL ls) = some j) (hz : ls[j]? = some z) (hb : body z.req = body r) :
    noteL ls 2 x y s r [(i, sgn 2 x y s r i)] = (ls, []) := by
  rw [note_one (.inl rfl) (sgn_rgt _ _ _ _ _ h0 h1), meet_old hf hz (.inr hb)]
theorem note_other {ls : List PSn} {x y s i : Int} {r : PReq} (h0 : 0 ≤ i) (h1 : i ≤ 15) {j : Nat} {z : PSn} (hf : fnd (2, x, y, s, i) (keysL ls) = some j) (hz : ls[j]? = some z) (ht : z.told = false) (hb : ¬ body z.req = body r) :
    noteL ls 2 x y s r [(i, sgn 2 x y s r i)] = (ls.set j { z with told := true }, [evL (2, x, y, s, i) z.req z.sig r (sgn 2 x y s r i)]) := by
  rw [note_one (.inl rfl) (sgn_rgt _ _ _ _ _ h0 h1), meet_new hf hz (by rw [ht]; simp; exact hb)]
end Go.Proofs.YtgjepofinpmcpaaGreatDoor
