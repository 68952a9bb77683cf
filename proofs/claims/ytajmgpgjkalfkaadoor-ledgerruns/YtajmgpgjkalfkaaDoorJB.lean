/- bytes.Compare. -/
import Derived.Test.YtajmgpgjkalfkaaDoorLm1
import Derived.Test.YtajmgpgjkalfkaaDoorT2
import Derived.Test.YtajmgpgjkalfkaaDoorJA
import Derived.Test.YtajmgpgjkalfkaaDoorKvl
import Derived.Test.YtajmgpgjkalfkaaDoorLc
import Derived.Lib.BytesEntry
import Derived.Laws.Externs
section
set_option linter.unusedVariables false
set_option linter.unusedSimpArgs false
namespace Go.Proofs.YtajmgpgjkalfkaaDoor
open Go.RowKit Oct Kvl

/-- The first vote at a place, and whether another one was told. -/
structure PSn where
  key : PK
  req : PReq
  sig : List Int
  told : Bool
def ev0 (q : PK) (r1 : PReq) (s1 : List Int) (r2 : PReq) (s2 : List Int) : PMsg :=
  { zeroM with kind := 13, idx := q.1, bal := (q.2.1, q.2.2.1), slot := q.2.2.2.1, frm := q.2.2.2.2, req := r1, sig := s1, oth := r2, data := s2 }
def evL (q : PK) (r1 : PReq) (s1 : List Int) (r2 : PReq) (s2 : List Int) : PMsg :=
  if 0 < cmpL (body r1) (body r2) then ev0 q r2 s2 r1 s1 else ev0 q r1 s1 r2 s2
def keysL (ls : List PSn) : List PK := ls.map (·.key)
def meetL (ls : List PSn) (q : PK) (r : PReq) (g : List Int) : List PSn × List PMsg :=
  match fnd q (keysL ls) with
  | none => (if ls.length < 8192 then ls ++ [⟨q, r, g, false⟩] else ls, [])
  | some j => match ls[j]? with
    | none => (ls, [])
    | some z => if z.told = true ∨ body z.req = body r then (ls, []) else (ls.set j { z with told := true }, [evL q z.req z.sig r g])
def rgtV (k x y s : Int) (r : PReq) (v : PVote) : Bool := verL (repL v.1) v.2 (sL ⟨#[118, 111, 116, 101]⟩) [numsL [k, x, y, s], body r]
def stpL (k x y s : Int) (r : PReq) (st : List PSn × List PMsg) (v : PVote) : List PSn × List PMsg :=
  if rgtV k x y s r v = true then ((meetL st.1 (k, x, y, s, v.1) r v.2).1, st.2 ++ (meetL st.1 (k, x, y, s, v.1) r v.2).2) else st
def noteV (ls : List PSn) (k x y s : Int) (r : PReq) (vs : List PVote) : List PSn × List PMsg := vs.foldl (stpL k x y s r) (ls, [])
def noteL (ls : List PSn) (k x y s : Int) (r : PReq) (vs : List PVote) : List PSn × List PMsg := if k = 2 ∨ k = 3 then noteV ls k x y s r vs else (ls, [])
def cutL (ls : List PSn) (s : Int) : List PSn := ls.filter fun z => decide (s < z.key.2.2.2.1)

/-- How great what is kept may be. -/
def okS (z : PSn) : Prop := tot [z.req.2.2.1, z.req.2.2.2] ≤ 2000000 ∧ szT z.sig
/-- What every ledger is. -/
structure OkL (ls : List PSn) : Prop where
  dup : (keysL ls).Nodup
  ok : ∀ z ∈ ls, okS z
  len : ls.length ≤ 8192
theorem OkL.nil : OkL [] := ⟨by simp [keysL], by simp, by simp⟩

theorem keys_set {ls : List PSn} {j : Nat} {z y : PSn} (hz : ls[j]? = some z) (hk : y.key = z.key) : keysL (ls.set j y) = keysL ls := by
  unfold keysL
  rw [List.map_set]
  refine List.ext_getElem? fun i => ?_
  rw [List.getElem?_set]
  by_cases hi : j = i
  · subst hi
    have hjl := (List.getElem?_eq_some_iff.1 hz).1
    simp [hjl, hk, hz]
    have := (List.getElem?_eq_some_iff.1 hz).2
    rw [this]
  · simp [hi]
theorem fnd_at {ls : List PSn} {q : PK} {j : Nat} (h : fnd q (keysL ls) = some j) : ∃ z, ls[j]? = some z ∧ z.key = q := by
  obtain ⟨h1, h2⟩ := fnd_lt h
  unfold keysL at h2
  rw [List.getElem?_map] at h2
  cases hz : ls[j]? with
  | none => simp [hz] at h2
  | some z =>
    simp [hz] at h2
    exact ⟨z, rfl, h2⟩
theorem meet_none {ls : List PSn} {q : PK} {r : PReq} {g : List Int} (h : fnd q (keysL ls) = none) : meetL ls q r g = (if ls.length < 8192 then ls ++ [⟨q, r, g, false⟩] else ls, []) := by
  unfold meetL; rw [h]
theorem meet_old {ls : List PSn} {q : PK} {r : PReq} {g : List Int} {j : Nat} {z : PSn} (h : fnd q (keysL ls) = some j) (hz : ls[j]? = some z) (ht : z.told = true ∨ body z.req = body r) : meetL ls q r g = (ls, []) := by
  unfold meetL; simp only [h, hz, if_pos ht]
theorem meet_new {ls : List PSn} {q : PK} {r : PReq} {g : List Int} {j : Nat} {z : PSn} (h : fnd q (keysL ls) = some j) (hz : ls[j]? = some z) (ht : ¬ (z.told = true ∨ body z.req = body r)) :
    meetL ls q r g = (ls.set j { z with told := true }, [evL q z.req z.sig r g]) := by
  unfold meetL; simp only [h, hz, if_neg ht]
theorem OkL.meet {ls : List PSn} (h : OkL ls) (q : PK) {r : PReq} {g : List Int} (hr : tot [r.2.2.1, r.2.2.2] ≤ 2000000) (hg : szT g) : OkL (meetL ls q r g).1 := by
  cases hf : fnd q (keysL ls) with
  | none =>
    rw [meet_none hf]
    by_cases hl : ls.length < 8192
    · simp only [if_pos hl]
      refine ⟨?_, ?_, by simp; omega⟩
      · unfold keysL
        rw [List.map_append, List.nodup_append]
        refine ⟨h.dup, by simp, ?_⟩
        intro a ha c hc
        simp at hc
        subst hc
        exact fun e => fnd_none hf (e ▸ ha)
      · intro z hz
        rcases List.mem_append.1 hz with hz | hz
        · exact h.ok z hz
        · simp at hz
          subst hz
          exact ⟨hr, hg⟩
    · simp only [if_neg hl]
      exact h
  | some j =>
    obtain ⟨z, hz, hk⟩ := fnd_at hf
    by_cases ht : z.told = true ∨ body z.req = body r
    · rw [meet_old hf hz ht]
      exact h
    · rw [meet_new hf hz ht]
      refine ⟨?_, ?_, by simpa using h.len⟩
      · have := keys_set (y := { z with told := true }) hz rfl
        rw [this]
        exact h.dup
      · intro y hy
        rcases List.mem_or_eq_of_mem_set hy with hy | rfl
        · exact h.ok y hy
        · exact h.ok z (List.mem_of_getElem? hz)
theorem OkL.cut {ls : List PSn} (h : OkL ls) (s : Int) : OkL (cutL ls s) :=
  ⟨by unfold cutL keysL; exact (List.filter_sublist.map _).nodup h.dup, fun z hz => h.ok z (List.mem_filter.1 hz).1, Nat.le_trans (List.length_filter_le _ _) h.len⟩
theorem noteV_take {ls : List PSn} {k x y s : Int} {r : PReq} {vs : List PVote} {i : Nat} {v : PVote} (h : vs[i]? = some v) : noteV ls k x y s r (vs.take (i + 1)) = stpL k x y s r (noteV ls k x y s r (vs.take i)) v := by
  unfold noteV
  rw [List.take_add_one, h, List.foldl_append]
  rfl
theorem stp_no {k x y s : Int} {r : PReq} {st : List PSn × List PMsg} {v : PVote} (h : rgtV k x y s r v = false) : stpL k x y s r st v = st := by unfold stpL; simp [h]
theorem stp_yes {k x y s : Int} {r : PReq} {st : List PSn × List PMsg} {v : PVote} (h : rgtV k x y s r v = true) : stpL k x y s r st v = ((meetL st.1 (k, x, y, s, v.1) r v.2).1, st.2 ++ (meetL st.1 (k, x, y, s, v.1) r v.2).2) := by unfold stpL; simp [h]
theorem meet_one (ls : List PSn) (q : PK) (r : PReq) (g : List Int) : (meetL ls q r g).2.length ≤ 1 := by
  unfold meetL
  split
  · simp
  · split
    · simp
    · split <;> simp
theorem OkL.stp {st : List PSn × List PMsg} (h : OkL st.1) (k x y s : Int) {r : PReq} (hr : tot [r.2.2.1, r.2.2.2] ≤ 2000000) {v : PVote} (hg : szT v.2) : OkL (stpL k x y s r st v).1 := by
  unfold stpL
  split
  · exact h.meet _ hr hg
  · exact h
theorem stp_len (k x y s : Int) (r : PReq) (st : List PSn × List PMsg) (v : PVote) : (stpL k x y s r st v).2.length ≤ st.2.length + 1 := by
  unfold stpL
  split
  · have := meet_one st.1 (k, x, y, s, v.1) r v.2
    simp
    omega
  · omega
theorem note_inv {k x y s : Int} {r : PReq} (hr : tot [r.2.2.1, r.2.2.2] ≤ 2000000) : ∀ (vs : List PVote) (st : List PSn × List PMsg), OkL st.1 → (∀ v ∈ vs, szT v.2) → OkL (vs.foldl (stpL k x y s r) st).1 ∧ (vs.foldl (stpL k x y s r) st).2.length ≤ st.2.length + vs.length
  | [], st, h, _ => ⟨h, by simp⟩
  | v :: vs, st, h, hv => by
    obtain ⟨h1, h2⟩ := note_inv hr vs (stpL k x y s r st v) (h.stp k x y s hr (hv v (by simp))) (fun u hu => hv u (by simp [hu]))
    have := stp_len k x y s r st v
    refine ⟨h1, ?_⟩
    simp only [List.foldl_cons, List.length_cons]
    omega
theorem OkL.noteV {ls : List PSn} (h : OkL ls) (k x y s : Int) {r : PReq} (hr : tot [r.2.2.1, r.2.2.2] ≤ 2000000) {vs : List PVote} (hv : ∀ v ∈ vs, szT v.2) : OkL (noteV ls k x y s r vs).1 := (note_inv hr vs (ls, []) h hv).1
theorem noteV_len {ls : List PSn} (h : OkL ls) (k x y s : Int) {r : PReq} (hr : tot [r.2.2.1, r.2.2.2] ≤ 2000000) {vs : List PVote} (hv : ∀ v ∈ vs, szT v.2) : (Go.Proofs.YtajmgpgjkalfkaaDoor.noteV ls k x y s r vs).2.length ≤ vs.length := by
  have := (note_inv (k := k) (x := x) (y := y) (s := s) hr vs (ls, []) h hv).2
  simpa [Go.Proofs.YtajmgpgjkalfkaaDoor.noteV] using this
theorem OkL.note {ls : List PSn} (h : OkL ls) (k x y s : Int) {r : PReq} (hr : tot [r.2.2.1, r.2.2.2] ≤ 2000000) {vs : List PVote} (hv : ∀ v ∈ vs, szT v.2) : OkL (noteL ls k x y s r vs).1 := by
  unfold noteL
  split
  · exact h.noteV k x y s hr hv
  · exact h
theorem body_byt {r : PReq} (h1 : Byt r.2.2.1) (h2 : Byt r.2.2.2) (hr : tot [r.2.2.1, r.2.2.2] ≤ 2000000) : Byt (body r) :=
  Byt.app (Byt.app (le8_byt _) (le8_byt _)) (packL_byt (ll := [r.2.2.1, r.2.2.2]) (fun l hl => by
    simp only [List.mem_cons, List.not_mem_nil, or_false] at hl
    rcases hl with rfl | rfl
    · exact h1
    · exact h2) (by omega))
theorem body_len {r : PReq} (hr : tot [r.2.2.1, r.2.2.2] ≤ 2000000) : (body r).length ≤ 3000000 := by
  unfold body
  rw [List.length_append, List.length_append, le8_len, le8_len]
  have h1 := enc_len r.2.2.1.length
  have h2 := enc_len r.2.2.2.length
  simp only [tot] at hr
  simp only [packL, List.length_append, List.length_nil]
  omega
end Go.Proofs.YtajmgpgjkalfkaaDoor
end

section
set_option linter.unusedVariables false
set_option linter.unusedSimpArgs false
namespace Go.Proofs.YtajmgpgjkalfkaaDoor
open Go.RowKit Oct Kvl

theorem u8_lt {x y : Int} (hx : 0 ≤ x ∧ x ≤ 255) (hy : 0 ≤ y ∧ y ≤ 255) : (x.toNat.toUInt8 < y.toNat.toUInt8) ↔ x < y := by
  rw [UInt8.lt_iff_toNat_lt]
  simp
  omega
theorem cmp_bytes : ∀ {a b : List Int}, Byt a → Byt b → Lib.compareBytes (Lib.bytesOf a) (Lib.bytesOf b) = cmpL a b
  | [], [], _, _ => rfl
  | [], _ :: _, _, _ => rfl
  | _ :: _, [], _, _ => rfl
  | x :: a, y :: b, ha, hb => by
    have hx := ha x (by simp)
    have hy := hb y (by simp)
    have ih := cmp_bytes (a := a) (b := b) (fun z hz => ha z (by simp [hz])) (fun z hz => hb z (by simp [hz]))
    show (if x.toNat.toUInt8 < y.toNat.toUInt8 then -1 else if y.toNat.toUInt8 < x.toNat.toUInt8 then 1 else Lib.compareBytes (Lib.bytesOf a) (Lib.bytesOf b)) = _
    unfold cmpL
    rw [ih]
    simp only [u8_lt hx hy, u8_lt hy hx]
theorem run_bytesOf {P : Program} {w : World} {v : Value} {l : List Int} (h : Rd w v l) : (Extern.Bytes.bytesOf v).run P w = .ok ⟨(Lib.bytesOf l).toArray⟩ w := by
  obtain ⟨hb, ao, cap, rfl, h1, h2, h3, h4⟩ := h
  cases ao with
  | none =>
    have := (h3 rfl).1
    simp [bc] at this
    subst this
    rfl
  | some a =>
    have := Lib.run_loadBytesX (P := P) w l a .empty (fun j x hj => h4 a rfl j _ (by rw [bc_at, hj]; rfl))
    rw [bc_len]
    show Sem.run P (Extern.Bytes.loadBytes a l.length .empty) w = _
    rw [this]
    congr 1
    apply ByteArray.ext
    show (#[] : Array UInt8) ++ (Lib.bytesOf l).toArray = (Lib.bytesOf l).toArray
    simp
theorem run_cmp {w : World} {u v : Value} {a b : List Int} (ha : Rd w u a) (hb : Rd w v b) : (callFunc 50 #[u, v]).run Tryd.prog w = .ok (.value (.int .i64 (cmpL a b))) w := by
  rw [run_callFunc_extern Tryd.func50 (by kernel_rfl) (by kernel_rfl) (by kernel_rfl) (e := Extern.BytealgCompare.compare) (by kernel_rfl)]
  have h : (Extern.BytealgCompare.compare #[u, v]).run Tryd.prog w = .ok (.int .i64 (cmpL a b)) w := by
    show Sem.run Tryd.prog (do pure (goInt (Extern.BytealgCompare.cmp (← Extern.Bytes.bytesOf u) (← Extern.Bytes.bytesOf v)))) w = _
    simp only [Sem.run_bind, run_bytesOf ha, run_bytesOf hb, Result.andThen, Sem.run_pure, Lib.cmp_eq]
    rw [cmp_bytes ha.1 hb.1]
    rfl
  rw [h]
  rfl
/-- bytes.Compare. -/
theorem compare_any (w : World) (u v : Value) (a b : List Int) (ha : Rd w u a) (hb : Rd w v b) :
    Calls Tryd.prog 39 #[u, v] w fun e w' => e = .returned (.int .i64 (cmpL a b)) ∧ w' = w := by
  have h := run_cmp ha hb
  go_enter Tryd.func39, Tryd.ntmps39
  go_wp2_with (simp only [h])
  go_ret
  exact ⟨rfl, rfl⟩
end Go.Proofs.YtajmgpgjkalfkaaDoor
end
