/- Layer 9, plain: a session is an entry whose name is [client] and whose value is stamp :: code :: bytes; states; what a request does. -/
import Derived.Test.YteafgdidjdfiiaaGreatZp
import Derived.Test.YteafgdidjdfiiaaGreatKvr
import Derived.Test.YteafgdidjdfiiaaGreatPm
set_option linter.unusedVariables false
set_option linter.unusedSimpArgs false
namespace Go.Proofs.YteafgdidjdfiiaaGreat
namespace Kvl
open Oct

abbrev PApp := Int × List PEnt × List PEnt × List PEnt
def sc (e : PEnt) : Int := e.1.headD 0
def sv (e : PEnt) : List Int := e.2.tail.tail
def rgn1 (e : PEnt) : Prop := (1 ≤ sc e ∧ sc e ≤ 4) ∧ (1 ≤ lo e.2 ∧ lo e.2 ≤ 2147483647) ∧ (0 ≤ lu e.2 ∧ lu e.2 ≤ 6) ∧ (sv e).length ≤ 64
instance (e : PEnt) : Decidable (rgn1 e) := by unfold rgn1; infer_instance
/-- Sessions have this form. -/
def wfN (l : List PEnt) : Prop := ∀ e ∈ l, ∃ c s k v, e = ([c], s :: k :: v)
/-- Rising clients above m, each session right. -/
def chkN (m : Int) : List PEnt → Prop
  | [] => True
  | e :: r => (m < sc e ∧ rgn1 e) ∧ chkN (sc e) r
instance chkNDec : (m : Int) → (l : List PEnt) → Decidable (chkN m l)
  | _, [] => isTrue trivial
  | m, x :: r => @instDecidableAnd _ _ _ (chkNDec (sc x) r)
def rgtN (l : List PEnt) : Prop := chkN 0 l
instance (l : List PEnt) : Decidable (rgtN l) := by unfold rgtN; infer_instance

theorem cmp_one (a b : Int) : cmpL [a] [b] < 0 ↔ a < b := by
  simp only [cmpL]
  by_cases h : a < b
  · simp [h]
  · by_cases h2 : b < a
    · simp [h, h2]
    · simp [h, h2]
theorem one_eq (a b : Int) : ([a] : List Int) = [b] ↔ a = b := by simp
theorem chk_up : ∀ {l : List PEnt} {m : Int}, wfN l → chkN m l → up [m] l
  | [], _, _, _ => trivial
  | x :: r, m, hw, h => by
    obtain ⟨c, s, k, v, rfl⟩ := hw x (by simp)
    exact ⟨(cmp_one m c).2 h.1.1, chk_up (fun e he => hw e (by simp [he])) h.2⟩
theorem chk_all : ∀ {l : List PEnt} {m : Int}, chkN m l → ∀ e ∈ l, rgn1 e
  | [], _, _, e, he => by cases he
  | x :: r, m, h, e, he => by
    rcases List.mem_cons.1 he with rfl | he
    · exact h.1.2
    · exact chk_all h.2 e he
theorem up_chk : ∀ {l : List PEnt} {m : Int}, wfN l → up [m] l → (∀ e ∈ l, rgn1 e) → chkN m l
  | [], _, _, _, _ => trivial
  | x :: r, m, hw, h, ha => by
    obtain ⟨c, s, k, v, rfl⟩ := hw x (by simp)
    exact ⟨⟨(cmp_one m c).1 h.1, ha _ (by simp)⟩, up_chk (fun e he => hw e (by simp [he])) h.2 (fun e he => ha e (by simp [he]))⟩
theorem chk_len : ∀ {l : List PEnt} {m : Int}, chkN m l → m ≤ 4 → (l.length : Int) ≤ 4 - m
  | [], _, _, h => by simp; omega
  | x :: r, m, h, hm => by
    have := chk_len h.2 h.1.2.1.2
    have := h.1.1
    simp only [List.length_cons]
    omega
theorem rgn_len {l : List PEnt} (h : rgtN l) : l.length ≤ 4 := by
  have := chk_len h (by decide)
  omega

/-- A client's last request: the first session of it. -/
def fndN (c : Int) : List PEnt → Option (List Int)
  | [] => none
  | x :: r => if x.1 = [c] then some x.2 else fndN c r
def lasN (l : List PEnt) (c : Int) : Int × Int × List Int := match fndN c l with | none => (0, 0, []) | some v => (lo v, lu v, v.tail.tail)
theorem fnd_get {c : Int} : ∀ {l : List PEnt} {m : List Int}, up m l → fndN c l = getR [c] l
  | [], _, _ => rfl
  | x :: r, m, h => by
    unfold fndN getR
    by_cases h1 : x.1 = [c]
    · rw [if_pos h1, if_neg (by rw [h1, cmp_self]; omega), if_pos h1]
    · rw [if_neg h1]
      by_cases h2 : cmpL x.1 [c] < 0
      · rw [if_pos h2]; exact fnd_get h.2
      · rw [if_neg h2, if_neg h1, fnd_get h.2, get_none h.2 h2]
theorem fnd_at {c : Int} : ∀ {l : List PEnt} {q : Nat} {x : PEnt}, (∀ (j : Nat) (y : PEnt), j < q → l[j]? = some y → y.1 ≠ [c]) → l[q]? = some x → x.1 = [c] → fndN c l = some x.2
  | [], q, x, _, h, _ => by simp at h
  | y :: r, 0, x, _, h, hx => by simp at h; subst h; simp [fndN, hx]
  | y :: r, q + 1, x, h1, h, hx => by
    unfold fndN
    rw [if_neg (h1 0 y (by omega) rfl)]
    exact fnd_at (l := r) (q := q) (fun j z hj hz => h1 (j + 1) z (by omega) (by simpa using hz)) (by simpa using h) hx
theorem fnd_no {c : Int} : ∀ {l : List PEnt}, (∀ (j : Nat) (y : PEnt), l[j]? = some y → y.1 ≠ [c]) → fndN c l = none
  | [], _ => rfl
  | y :: r, h => by
    unfold fndN
    rw [if_neg (h 0 y rfl)]
    exact fnd_no (fun j z hz => h (j + 1) z (by simpa using hz))

def rgtA (a : PApp) : Prop := (0 ≤ a.1 ∧ a.1 ≤ 1000000) ∧ rgtL a.2.1 ∧ rgtS a.2.2.1 ∧ rgtN a.2.2.2
instance (a : PApp) : Decidable (rgtA a) := by unfold rgtA; infer_instance
def isZ (r : PReq) : Prop := r.1 = 0 ∧ r.2.1 = 0 ∧ r.2.2.1 = [] ∧ r.2.2.2 = []
instance (r : PReq) : Decidable (isZ r) := by unfold isZ; infer_instance
def okR (r : PReq) : Prop := (1 ≤ r.1 ∧ r.1 ≤ 4) ∧ (1 ≤ r.2.1 ∧ r.2.1 ≤ 2147483647)
instance (r : PReq) : Decidable (okR r) := by unfold okR; infer_instance
/-- What comes of an operation: entries, leases, code, value. -/
def opA (es ls : List PEnt) (r : PReq) (slot : Int) : List PEnt × List PEnt × Int × List Int :=
  match rdO r.2.2.1 with
  | none => (es, ls, 5, [])
  | some o => if o.1 ≤ 4 then ((doL es o).1, ls, (doL es o).2) else (es, (doS ls o r.1 slot).1, (doS ls o r.1 slot).2)
def stepA (a : PApp) (r : PReq) : PApp × (Int × List Int) × Bool :=
  if isZ r then ((a.1 + 1, a.2), (0, []), false)
  else if ¬ okR r then ((a.1 + 1, a.2), (5, []), false)
  else if r.2.1 = (lasN a.2.2.2 r.1).1 then ((a.1 + 1, a.2), (lasN a.2.2.2 r.1).2, false)
  else if r.2.1 < (lasN a.2.2.2 r.1).1 then ((a.1 + 1, a.2), (6, []), false)
  else ((a.1 + 1, (opA a.2.1 a.2.2.1 r (a.1 + 1)).1, (opA a.2.1 a.2.2.1 r (a.1 + 1)).2.1, putR [r.1] (r.2.1 :: (opA a.2.1 a.2.2.1 r (a.1 + 1)).2.2.1 :: (opA a.2.1 a.2.2.1 r (a.1 + 1)).2.2.2) a.2.2.2), (opA a.2.1 a.2.2.1 r (a.1 + 1)).2.2, true)
def goA (a : PApp) : Prop := rgtA a ∧ a.1 < 1000000
instance (a : PApp) : Decidable (goA a) := by unfold goA; infer_instance
def applyA (a : PApp) (r : PReq) : PApp × (Int × List Int) × Bool := if goA a then stepA a r else (a, (5, []), false)
def runA (a : PApp) (l : List PReq) : PApp := l.foldl (fun a r => (applyA a r).1) a

theorem doL_val {l : List PEnt} {o : POp} (h : rgtL l) : (0 ≤ (doL l o).2.1 ∧ (doL l o).2.1 ≤ 6) ∧ (doL l o).2.2.length ≤ 64 := by
  unfold doL
  split
  · unfold doR
    cases hg : getR o.2.1 l with
    | none =>
      simp only
      split
      · split <;> simp
      · simp
    | some v =>
      have hv : v.length ≤ 64 := (h.2.2 _ (List.mem_of_getElem? (get_some hg))).2.2
      simp only
      split
      · exact ⟨by simp, hv⟩
      · split
        · simp
        · split
          · split
            · simp
            · exact ⟨by simp, hv⟩
          · simp
  · simp
theorem tol_len (v : List Int) (now : Int) : (tol v now).length ≤ 20 := by
  have h1 := enc_len (lo v)
  have h2 := enc_len (lu v - now)
  unfold tol
  rw [List.length_append]
  omega
theorem doS_val {l : List PEnt} {o : POp} {who now : Int} : (0 ≤ (doS l o who now).2.1 ∧ (doS l o who now).2.1 ≤ 6) ∧ (doS l o who now).2.2.length ≤ 64 := by
  unfold doS
  split
  · unfold doT
    cases hg : getR o.2.1 (liv now l) with
    | none =>
      simp only
      split
      · split <;> simp
      · simp
    | some v =>
      have hv := tol_len v now
      simp only
      split
      · exact ⟨by simp, by show (tol v now).length ≤ 64; omega⟩
      · split
        · exact ⟨by simp, by show (tol v now).length ≤ 64; omega⟩
        · split <;> simp
  · simp
theorem opA_rgt {es ls : List PEnt} {r : PReq} {slot : Int} (h1 : rgtL es) (h2 : rgtS ls) : rgtL (opA es ls r slot).1 ∧ rgtS (opA es ls r slot).2.1 ∧ (0 ≤ (opA es ls r slot).2.2.1 ∧ (opA es ls r slot).2.2.1 ≤ 6) ∧ (opA es ls r slot).2.2.2.length ≤ 64 := by
  unfold opA
  split
  · exact ⟨h1, h2, by simp, by simp⟩
  · split
    · exact ⟨doL_rgt h1, h2, doL_val h1⟩
    · exact ⟨h1, doS_rgt h2, doS_val⟩
theorem put_wf {l : List PEnt} {c s k : Int} {v : List Int} (h : wfN l) : wfN (putR [c] (s :: k :: v) l) := fun e he => by
  rcases put_mem e he with rfl | he
  · exact ⟨c, s, k, v, rfl⟩
  · exact h e he
theorem put_rgtN {l : List PEnt} {c s k : Int} {v : List Int} (hw : wfN l) (h : rgtN l) (h1 : 1 ≤ c ∧ c ≤ 4) (h2 : 1 ≤ s ∧ s ≤ 2147483647) (h3 : 0 ≤ k ∧ k ≤ 6) (h4 : v.length ≤ 64) : rgtN (putR [c] (s :: k :: v) l) :=
  up_chk (put_wf hw) (put_up (chk_up hw h) ((cmp_one 0 c).2 (by omega))) fun e he => by
    rcases put_mem e he with rfl | he
    · exact ⟨h1, h2, h3, h4⟩
    · exact chk_all h e he
theorem stepA_wf {a : PApp} {r : PReq} (hw : wfN a.2.2.2) : wfN (stepA a r).1.2.2.2 := by
  unfold stepA
  split
  · exact hw
  · split
    · exact hw
    · split
      · exact hw
      · split
        · exact hw
        · exact put_wf hw
theorem applyA_wf {a : PApp} {r : PReq} (hw : wfN a.2.2.2) : wfN (applyA a r).1.2.2.2 := by
  unfold applyA
  split
  · exact stepA_wf hw
  · exact hw
theorem stepA_slot {a : PApp} {r : PReq} : (stepA a r).1.1 = a.1 + 1 := by
  unfold stepA
  split
  · rfl
  · split
    · rfl
    · split
      · rfl
      · split <;> rfl
theorem stepA_rgt {a : PApp} {r : PReq} (hw : wfN a.2.2.2) (h : goA a) : rgtA (stepA a r).1 := by
  obtain ⟨⟨⟨s1, s2⟩, he, hl, hn⟩, hs⟩ := h
  have hb : rgtA (a.1 + 1, a.2) := ⟨⟨by show 0 ≤ a.1 + 1; omega, by show a.1 + 1 ≤ 1000000; omega⟩, he, hl, hn⟩
  unfold stepA
  split
  · exact hb
  · split
    · exact hb
    · rename_i hk
      have hk : okR r := by simpa using hk
      split
      · exact hb
      · split
        · exact hb
        · obtain ⟨o1, o2, o3, o4⟩ := opA_rgt (r := r) (slot := a.1 + 1) he hl
          exact ⟨hb.1, o1, o2, put_rgtN hw hn hk.1 hk.2 o3 o4⟩
theorem applyA_rgt {a : PApp} {r : PReq} (hw : wfN a.2.2.2) (h : rgtA a) : rgtA (applyA a r).1 := by
  unfold applyA
  split
  · rename_i hg; exact stepA_rgt hw hg
  · exact h
theorem runA_stay {a : PApp} (h : ¬ goA a) : ∀ l : List PReq, runA a l = a
  | [] => rfl
  | r :: l => by
    have e : (applyA a r).1 = a := by unfold applyA; rw [if_neg h]
    show runA (applyA a r).1 l = a
    rw [e]
    exact runA_stay h l
theorem runA_go {a : PApp} {r : PReq} {l : List PReq} (h : goA a) : runA a (r :: l) = runA (stepA a r).1 l := by
  show runA (applyA a r).1 l = _
  unfold applyA
  rw [if_pos h]
theorem runA_snoc {a : PApp} {r : PReq} {l : List PReq} : runA a (l ++ [r]) = (applyA (runA a l) r).1 := by
  unfold runA
  rw [List.foldl_append]
  rfl

/-! What was done is told again. -/
theorem done_go {a : PApp} {r : PReq} (h : (applyA a r).2.2 = true) : goA a ∧ okR r ∧ (applyA a r).1.2.2.2 = putR [r.1] (r.2.1 :: (applyA a r).2.1.1 :: (applyA a r).2.1.2) a.2.2.2 ∧ ¬ r.2.1 ≤ (lasN a.2.2.2 r.1).1 := by
  by_cases hg : goA a
  · have e : applyA a r = stepA a r := by unfold applyA; rw [if_pos hg]
    rw [e] at h ⊢
    refine ⟨hg, ?_⟩
    unfold stepA at h ⊢
    split at h
    · simp at h
    · rename_i hz
      split at h
      · simp at h
      · rename_i hk
        split at h
        · simp at h
        · rename_i h1
          split at h
          · simp at h
          · rename_i h2
            have hk' : okR r := by simpa using hk
            rw [if_neg hz, if_neg hk, if_neg h1, if_neg h2]
            exact ⟨hk', rfl, by omega⟩
  · unfold applyA at h
    rw [if_neg hg] at h
    simp at h
theorem done_not {a : PApp} {r : PReq} (h : (applyA a r).2.2 = false) : (applyA a r).1.2.2.2 = a.2.2.2 := by
  unfold applyA at h ⊢
  split at h
  · rename_i hg
    rw [if_pos hg]
    unfold stepA at h ⊢
    split at h
    · rename_i hz; rw [if_pos hz]
    · rename_i hz
      rw [if_neg hz]
      split at h
      · rename_i hk; rw [if_pos hk]
      · rename_i hk
        rw [if_neg hk]
        split at h
        · rename_i h1; rw [if_pos h1]
        · rename_i h1
          rw [if_neg h1]
          split at h
          · rename_i h2; rw [if_pos h2]
          · simp at h
  · rename_i hg
    rw [if_neg hg]
/-- Another client's session stays. -/
theorem other_get {a : PApp} {r : PReq} {c : Int} (hw : wfN a.2.2.2) (hr : rgtN a.2.2.2) (h : c ≠ r.1) : getR [c] (applyA a r).1.2.2.2 = getR [c] a.2.2.2 := by
  cases hd : (applyA a r).2.2 with
  | false => rw [done_not hd]
  | true =>
    obtain ⟨_, _, e, _⟩ := done_go hd
    rw [e, get_put (chk_up hw hr), if_neg (fun e => h (by simpa using e))]
theorem own_get {a : PApp} {r : PReq} (hw : wfN a.2.2.2) (h : (applyA a r).2.2 = true) : getR [r.1] (applyA a r).1.2.2.2 = some (r.2.1 :: (applyA a r).2.1.1 :: (applyA a r).2.1.2) := by
  obtain ⟨hg, _, e, _⟩ := done_go h
  rw [e, get_put (chk_up hw hg.1.2.2.2), if_pos rfl]
/-- Done once: where the session has the request's stamp and result. -/
theorem again {a : PApp} {r : PReq} {k : Int} {v : List Int} (hw : wfN a.2.2.2) (hg : goA a) (hk : okR r) (h : getR [r.1] a.2.2.2 = some (r.2.1 :: k :: v)) : applyA a r = ((a.1 + 1, a.2), (k, v), false) := by
  have e : lasN a.2.2.2 r.1 = (r.2.1, k, v) := by
    unfold lasN
    rw [fnd_get (chk_up hw hg.1.2.2.2), h]
    rfl
  unfold applyA stepA
  rw [if_pos hg, if_neg (fun hz => by have := hk.1.1; have := hz.1; omega), if_neg (by simpa using hk), e, if_pos rfl]
theorem las_get {l : List PEnt} {c : Int} (hw : wfN l) (h : rgtN l) : (lasN l c).1 = match getR [c] l with | none => 0 | some v => lo v := by
  unfold lasN
  rw [fnd_get (chk_up hw h)]
  cases getR [c] l <;> rfl
/-- No session falls back. -/
theorem las_keeps {a : PApp} {r : PReq} (hw : wfN a.2.2.2) (hg : goA a) (c : Int) :
    ¬ (lasN (applyA a r).1.2.2.2 c).1 < (lasN a.2.2.2 c).1 ∧ decide ((lasN (applyA a r).1.2.2.2 c).1 ≠ (lasN a.2.2.2 c).1) = ((applyA a r).2.2 && decide (c = r.1)) := by
  have h1 := las_get (c := c) hw hg.1.2.2.2
  have h2 := las_get (c := c) (applyA_wf (r := r) hw) (applyA_rgt (r := r) hw hg.1).2.2.2
  cases hd : (applyA a r).2.2 with
  | false =>
    rw [done_not hd]
    simp
  | true =>
    by_cases hc : c = r.1
    · subst hc
      obtain ⟨_, _, _, hlt⟩ := done_go hd
      rw [own_get hw hd] at h2
      have h3 : (lasN (applyA a r).1.2.2.2 r.1).1 = r.2.1 := h2
      rw [h3]
      refine ⟨by omega, ?_⟩
      simp
      omega
    · rw [other_get hw hg.1.2.2.2 hc] at h2
      rw [h1, h2]
      simp [hc]
end Kvl
end Go.Proofs.YteafgdidjdfiiaaGreat
