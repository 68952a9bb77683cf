/- slices.Insert of one session. -/
import Derived.Test.YtejkkhlblnepeaaGreatHA
import Derived.Test.YtejkkhlblnepeaaGreatKvr
import Derived.Test.YtejkkhlblnepeaaGreatPm
section
set_option linter.unusedVariables false
set_option linter.unusedSimpArgs false
namespace Go.Proofs.YtejkkhlblnepeaaGreat
namespace Kvl
open Oct

abbrev PApp := Int × List PEnt × List PEnt × List PEnt
def sc (e : PEnt) : Int := e.1.headD 0
def sv (e : PEnt) : List Int := e.2.tail.tail
def rgn1 (e : PEnt) : Prop := (1 ≤ sc e ∧ sc e ≤ 4) ∧ (1 ≤ lo e.2 ∧ lo e.2 ≤ 2147483647) ∧ (0 ≤ lu e.2 ∧ lu e.2 ≤ 6) ∧ (sv e).length ≤ 64
instance (e : PEnt) : Decidable (rgn1 e) := by unfold rgn1; infer_instance
/-- Sessions have this form. -/
def wfN (l : List PEnt) : Prop := ∀ e ∈ l, ∃ c s k v, e = ([c], s :: k :: v)
/-- Rising clients above m, each session right. -/
def chkN (m : Int) : List PEnt → Prop
  | [] => True
  | e :: r => (m < sc e ∧ rgn1 e) ∧ chkN (sc e) r
instance chkNDec : (m : Int) → (l : List PEnt) → Decidable (chkN m l)
  | _, [] => isTrue trivial
  | m, x :: r => @instDecidableAnd _ _ _ (chkNDec (sc x) r)
def rgtN (l : List PEnt) : Prop := chkN 0 l
instance (l : List PEnt) : Decidable (rgtN l) := by unfold rgtN; infer_instance

theorem cmp_one (a b : Int) : cmpL [a] [b] < 0 ↔ a < b := by
  simp only [cmpL]
  by_cases h : a < b
  · simp [h]
  · by_cases h2 : b < a
    · simp [h, h2]
    · simp [h, h2]
theorem one_eq (a b : Int) : ([a] : List Int) = [b] ↔ a = b := by simp
theorem chk_up : ∀ {l : List PEnt} {m : Int}, wfN l → chkN m l → up [m] l
  | [], _, _, _ => trivial
  | x :: r, m, hw, h => by
    obtain ⟨c, s, k, v, rfl⟩ := hw x (by simp)
    exact ⟨(cmp_one m c).2 h.1.1, chk_up (fun e he => hw e (by simp [he])) h.2⟩
theorem chk_all : ∀ {l : List PEnt} {m : Int}, chkN m l → ∀ e ∈ l, rgn1 e
  | [], _, _, e, he => by cases he
  | x :: r, m, h, e, he => by
    rcases List.mem_cons.1 he with rfl | he
    · exact h.1.2
    · exact chk_all h.2 e he
theorem up_chk : ∀ {l : List PEnt} {m : Int}, wfN l → up [m] l → (∀ e ∈ l, rgn1 e) → chkN m l
  | [], _, _, _, _ => trivial
  | x :: r, m, hw, h, ha => by
    obtain ⟨c, s, k, v, rfl⟩ := hw x (by simp)
    exact ⟨⟨(cmp_one m c).1 h.1, ha _ (by simp)⟩, up_chk (fun e he => hw e (by simp [he])) h.2 (fun e he => ha e (by simp [he]))⟩
theorem chk_len : ∀ {l : List PEnt} {m : Int}, chkN m l → m ≤ 4 → (l.length : Int) ≤ 4 - m
  | [], _, _, h => by simp; omega
  | x :: r, m, h, hm => by
    have := chk_len h.2 h.1.2.1.2
    have := h.1.1
    simp only [List.length_cons]
    omega
theorem rgn_len {l : List PEnt} (h : rgtN l) : l.length ≤ 4 := by
  have := chk_len h (by decide)
  omega

/-- A client's last request: the first session of it. -/
def fndN (c : Int) : List PEnt → Option (List Int)
  | [] => none
  | x :: r => if x.1 = [c] then some x.2 else fndN c r
def lasN (l : List PEnt) (c : Int) : Int × Int × List Int := match fndN c l with | none => (0, 0, []) | some v => (lo v, lu v, v.tail.tail)
theorem fnd_get {c : Int} : ∀ {l : List PEnt} {m : List Int}, up m l → fndN c l = getR [c] l
  | [], _, _ => rfl
  | x :: r, m, h => by
    unfold fndN getR
    by_cases h1 : x.1 = [c]
    · rw [if_pos h1, if_neg (by rw [h1, cmp_self]; omega), if_pos h1]
    · rw [if_neg h1]
      by_cases h2 : cmpL x.1 [c] < 0
      · rw [if_pos h2]; exact fnd_get h.2
      · rw [if_neg h2, if_neg h1, fnd_get h.2, get_none h.2 h2]
theorem fnd_at {c : Int} : ∀ {l : List PEnt} {q : Nat} {x : PEnt}, (∀ (j : Nat) (y : PEnt), j < q → l[j]? = some y → y.1 ≠ [c]) → l[q]? = some x → x.1 = [c] → fndN c l = some x.2
  | [], q, x, _, h, _ => by simp at h
  | y :: r, 0, x, _, h, hx => by simp at h; subst h; simp [fndN, hx]
  | y :: r, q + 1, x, h1, h, hx => by
    unfold fndN
    rw [if_neg (h1 0 y (by omega) rfl)]
    exact fnd_at (l := r) (q := q) (fun j z hj hz => h1 (j + 1) z (by omega) (by simpa using hz)) (by simpa using h) hx
theorem fnd_no {c : Int} : ∀ {l : List PEnt}, (∀ (j : Nat) (y : PEnt), l[j]? = some y → y.1 ≠ [c]) → fndN c l = none
  | [], _ => rfl
  | y :: r, h => by
    unfold fndN
    rw [if_neg (h 0 y rfl)]
    exact fnd_no (fun j z hz => h (j + 1) z (by simpa using hz))

def rgtA (a : PApp) : Prop := (0 ≤ a.1 ∧ a.1 ≤ 1000000) ∧ rgtL a.2.1 ∧ rgtS a.2.2.1 ∧ rgtN a.2.2.2
instance (a : PApp) : Decidable (rgtA a) := by unfold rgtA; infer_instance
def isZ (r : PReq) : Prop := r.1 = 0 ∧ r.2.1 = 0 ∧ r.2.2.1 = [] ∧ r.2.2.2 = []
instance (r : PReq) : Decidable (isZ r) := by unfold isZ; infer_instance
def okR (r : PReq) : Prop := (1 ≤ r.1 ∧ r.1 ≤ 4) ∧ (1 ≤ r.2.1 ∧ r.2.1 ≤ 2147483647)
instance (r : PReq) : Decidable (okR r) := by unfold okR; infer_instance
/-- What comes of an operation: entries, leases, code, value. -/
def opA (es ls : List PEnt) (r : PReq) (slot : Int) : List PEnt × List PEnt × Int × List Int :=
  match rdO r.2.2.1 with
  | none => (es, ls, 5, [])
  | some o => if o.1 ≤ 4 then ((doL es o).1, ls, (doL es o).2) else (es, (doS ls o r.1 slot).1, (doS ls o r.1 slot).2)
def stepA (a : PApp) (r : PReq) : PApp × (Int × List Int) × Bool :=
  if isZ r then ((a.1 + 1, a.2), (0, []), false)
  else if ¬ okR r then ((a.1 + 1, a.2), (5, []), false)
  else if r.2.1 = (lasN a.2.2.2 r.1).1 then ((a.1 + 1, a.2), (lasN a.2.2.2 r.1).2, false)
  else if r.2.1 < (lasN a.2.2.2 r.1).1 then ((a.1 + 1, a.2), (6, []), false)
  else ((a.1 + 1, (opA a.2.1 a.2.2.1 r (a.1 + 1)).1, (opA a.2.1 a.2.2.1 r (a.1 + 1)).2.1, putR [r.1] (r.2.1 :: (opA a.2.1 a.2.2.1 r (a.1 + 1)).2.2.1 :: (opA a.2.1 a.2.2.1 r (a.1 + 1)).2.2.2) a.2.2.2), (opA a.2.1 a.2.2.1 r (a.1 + 1)).2.2, true)
def goA (a : PApp) : Prop := rgtA a ∧ a.1 < 1000000
instance (a : PApp) : Decidable (goA a) := by unfold goA; infer_instance
def applyA (a : PApp) (r : PReq) : PApp × (Int × List Int) × Bool := if goA a then stepA a r else (a, (5, []), false)
def runA (a : PApp) (l : List PReq) : PApp := l.foldl (fun a r => (applyA a r).1) a

theorem doL_val {l : List PEnt} {o : POp} (h : rgtL l) : (0 ≤ (doL l o).2.1 ∧ (doL l o).2.1 ≤ 6) ∧ (doL l o).2.2.length ≤ 64 := by
  unfold doL
  split
  · unfold doR
    cases hg : getR o.2.1 l with
    | none =>
      simp only
      split
      · split <;> simp
      · simp
    | some v =>
      have hv : v.length ≤ 64 := (h.2.2 _ (List.mem_of_getElem? (get_some hg))).2.2
      simp only
      split
      · exact ⟨by simp, hv⟩
      · split
        · simp
        · split
          · split
            · simp
            · exact ⟨by simp, hv⟩
          · simp
  · simp
theorem tol_len (v : List Int) (now : Int) : (tol v now).length ≤ 20 := by
  have h1 := enc_len (lo v)
  have h2 := enc_len (lu v - now)
  unfold tol
  rw [List.length_append]
  omega
theorem doS_val {l : List PEnt} {o : POp} {who now : Int} : (0 ≤ (doS l o who now).2.1 ∧ (doS l o who now).2.1 ≤ 6) ∧ (doS l o who now).2.2.length ≤ 64 := by
  unfold doS
  split
  · unfold doT
    cases hg : getR o.2.1 (liv now l) with
    | none =>
      simp only
      split
      · split <;> simp
      · simp
    | some v =>
      have hv := tol_len v now
      simp only
      split
      · exact ⟨by simp, by show (tol v now).length ≤ 64; omega⟩
      · split
        · exact ⟨by simp, by show (tol v now).length ≤ 64; omega⟩
        · split <;> simp
  · simp
theorem opA_rgt {es ls : List PEnt} {r : PReq} {slot : Int} (h1 : rgtL es) (h2 : rgtS ls) : rgtL (opA es ls r slot).1 ∧ rgtS (opA es ls r slot).2.1 ∧ (0 ≤ (opA es ls r slot).2.2.1 ∧ (opA es ls r slot).2.2.1 ≤ 6) ∧ (opA es ls r slot).2.2.2.length ≤ 64 := by
  unfold opA
  split
  · exact ⟨h1, h2, by simp, by simp⟩
  · split
    · exact ⟨doL_rgt h1, h2, doL_val h1⟩
    · exact ⟨h1, doS_rgt h2, doS_val⟩
theorem put_wf {l : List PEnt} {c s k : Int} {v : List Int} (h : wfN l) : wfN (putR [c] (s :: k :: v) l) := fun e he => by
  rcases put_mem e he with rfl | he
  · exact ⟨c, s, k, v, rfl⟩
  · exact h e he
theorem put_rgtN {l : List PEnt} {c s k : Int} {v : List Int} (hw : wfN l) (h : rgtN l) (h1 : 1 ≤ c ∧ c ≤ 4) (h2 : 1 ≤ s ∧ s ≤ 2147483647) (h3 : 0 ≤ k ∧ k ≤ 6) (h4 : v.length ≤ 64) : rgtN (putR [c] (s :: k :: v) l) :=
  up_chk (put_wf hw) (put_up (chk_up hw h) ((cmp_one 0 c).2 (by omega))) fun e he => by
    rcases put_mem e he with rfl | he
    · exact ⟨h1, h2, h3, h4⟩
    · exact chk_all h e he
theorem stepA_wf {a : PApp} {r : PReq} (hw : wfN a.2.2.2) : wfN (stepA a r).1.2.2.2 := by
  unfold stepA
  split
  · exact hw
  · split
    · exact hw
    · split
      · exact hw
      · split
        · exact hw
        · exact put_wf hw
theorem applyA_wf {a : PApp} {r : PReq} (hw : wfN a.2.2.2) : wfN (applyA a r).1.2.2.2 := by
  unfold applyA
  split
  · exact stepA_wf hw
  · exact hw
theorem stepA_slot {a : PApp} {r : PReq} : (stepA a r).1.1 = a.1 + 1 := by
  unfold stepA
  split
  · rfl
  · split
    · rfl
    · split
      · rfl
      · split <;> rfl
theorem stepA_rgt {a : PApp} {r : PReq} (hw : wfN a.2.2.2) (h : goA a) : rgtA (stepA a r).1 := by
  obtain ⟨⟨⟨s1, s2⟩, he, hl, hn⟩, hs⟩ := h
  have hb : rgtA (a.1 + 1, a.2) := ⟨⟨by show 0 ≤ a.1 + 1; omega, by show a.1 + 1 ≤ 1000000; omega⟩, he, hl, hn⟩
  unfold stepA
  split
  · exact hb
  · split
    · exact hb
    · rename_i hk
      have hk : okR r := by simpa using hk
      split
      · exact hb
      · split
        · exact hb
        · obtain ⟨o1, o2, o3, o4⟩ := opA_rgt (r := r) (slot := a.1 + 1) he hl
          exact ⟨hb.1, o1, o2, put_rgtN hw hn hk.1 hk.2 o3 o4⟩
theorem applyA_rgt {a : PApp} {r : PReq} (hw : wfN a.2.2.2) (h : rgtA a) : rgtA (applyA a r).1 := by
  unfold applyA
  split
  · rename_i hg; exact stepA_rgt hw hg
  · exact h
theorem runA_stay {a : PApp} (h : ¬ goA a) : ∀ l : List PReq, runA a l = a
  | [] => rfl
  | r :: l => by
    have e : (applyA a r).1 = a := by unfold applyA; rw [if_neg h]
    show runA (applyA a r).1 l = a
    rw [e]
    exact runA_stay h l
theorem runA_go {a : PApp} {r : PReq} {l : List PReq} (h : goA a) : runA a (r :: l) = runA (stepA a r).1 l := by
  show runA (applyA a r).1 l = _
  unfold applyA
  rw [if_pos h]
theorem runA_snoc {a : PApp} {r : PReq} {l : List PReq} : runA a (l ++ [r]) = (applyA (runA a l) r).1 := by
  unfold runA
  rw [List.foldl_append]
  rfl

/-! What was done is told again. -/
theorem done_go {a : PApp} {r : PReq} (h : (applyA a r).2.2 = true) : goA a ∧ okR r ∧ (applyA a r).1.2.2.2 = putR [r.1] (r.2.1 :: (applyA a r).2.1.1 :: (applyA a r).2.1.2) a.2.2.2 ∧ ¬ r.2.1 ≤ (lasN a.2.2.2 r.1).1 := by
  by_cases hg : goA a
  · have e : applyA a r = stepA a r := by unfold applyA; rw [if_pos hg]
    rw [e] at h ⊢
    refine ⟨hg, ?_⟩
    unfold stepA at h ⊢
    split at h
    · simp at h
    · rename_i hz
      split at h
      · simp at h
      · rename_i hk
        split at h
        · simp at h
        · rename_i h1
          split at h
          · simp at h
          · rename_i h2
            have hk' : okR r := by simpa using hk
            rw [if_neg hz, if_neg hk, if_neg h1, if_neg h2]
            exact ⟨hk', rfl, by omega⟩
  · unfold applyA at h
    rw [if_neg hg] at h
    simp at h
theorem done_not {a : PApp} {r : PReq} (h : (applyA a r).2.2 = false) : (applyA a r).1.2.2.2 = a.2.2.2 := by
  unfold applyA at h ⊢
  split at h
  · rename_i hg
    rw [if_pos hg]
    unfold stepA at h ⊢
    split at h
    · rename_i hz; rw [if_pos hz]
    · rename_i hz
      rw [if_neg hz]
      split at h
      · rename_i hk; rw [if_pos hk]
      · rename_i hk
        rw [if_neg hk]
        split at h
        · rename_i h1; rw [if_pos h1]
        · rename_i h1
          rw [if_neg h1]
          split at h
          · rename_i h2; rw [if_pos h2]
          · simp at h
  · rename_i hg
    rw [if_neg hg]
/-- Another client's session stays. -/
theorem other_get {a : PApp} {r : PReq} {c : Int} (hw : wfN a.2.2.2) (hr : rgtN a.2.2.2) (h : c ≠ r.1) : getR [c] (applyA a r).1.2.2.2 = getR [c] a.2.2.2 := by
  cases hd : (applyA a r).2.2 with
  | false => rw [done_not hd]
  | true =>
    obtain ⟨_, _, e, _⟩ := done_go hd
    rw [e, get_put (chk_up hw hr), if_neg (fun e => h (by simpa using e))]
theorem own_get {a : PApp} {r : PReq} (hw : wfN a.2.2.2) (h : (applyA a r).2.2 = true) : getR [r.1] (applyA a r).1.2.2.2 = some (r.2.1 :: (applyA a r).2.1.1 :: (applyA a r).2.1.2) := by
  obtain ⟨hg, _, e, _⟩ := done_go h
  rw [e, get_put (chk_up hw hg.1.2.2.2), if_pos rfl]
/-- Done once: where the session has the request's stamp and result. -/
theorem again {a : PApp} {r : PReq} {k : Int} {v : List Int} (hw : wfN a.2.2.2) (hg : goA a) (hk : okR r) (h : getR [r.1] a.2.2.2 = some (r.2.1 :: k :: v)) : applyA a r = ((a.1 + 1, a.2), (k, v), false) := by
  have e : lasN a.2.2.2 r.1 = (r.2.1, k, v) := by
    unfold lasN
    rw [fnd_get (chk_up hw hg.1.2.2.2), h]
    rfl
  unfold applyA stepA
  rw [if_pos hg, if_neg (fun hz => by have := hk.1.1; have := hz.1; omega), if_neg (by simpa using hk), e, if_pos rfl]
theorem las_get {l : List PEnt} {c : Int} (hw : wfN l) (h : rgtN l) : (lasN l c).1 = match getR [c] l with | none => 0 | some v => lo v := by
  unfold lasN
  rw [fnd_get (chk_up hw h)]
  cases getR [c] l <;> rfl
/-- No session falls back. -/
theorem las_keeps {a : PApp} {r : PReq} (hw : wfN a.2.2.2) (hg : goA a) (c : Int) :
    ¬ (lasN (applyA a r).1.2.2.2 c).1 < (lasN a.2.2.2 c).1 ∧ decide ((lasN (applyA a r).1.2.2.2 c).1 ≠ (lasN a.2.2.2 c).1) = ((applyA a r).2.2 && decide (c = r.1)) := by
  have h1 := las_get (c := c) hw hg.1.2.2.2
  have h2 := las_get (c := c) (applyA_wf (r := r) hw) (applyA_rgt (r := r) hw hg.1).2.2.2
  cases hd : (applyA a r).2.2 with
  | false =>
    rw [done_not hd]
    simp
  | true =>
    by_cases hc : c = r.1
    · subst hc
      obtain ⟨_, _, _, hlt⟩ := done_go hd
      rw [own_get hw hd] at h2
      have h3 : (lasN (applyA a r).1.2.2.2 r.1).1 = r.2.1 := h2
      rw [h3]
      refine ⟨by omega, ?_⟩
      simp
      omega
    · rw [other_get hw hg.1.2.2.2 hc] at h2
      rw [h1, h2]
      simp [hc]
end Kvl
end Go.Proofs.YtejkkhlblnepeaaGreat
end

section
set_option linter.unusedVariables false
set_option linter.unusedSimpArgs false
namespace Go.Proofs.YtejkkhlblnepeaaGreat
open Go.RowKit Oct Kvl

def RSes (G : Nat → Prop) (w : World) (r : List Value) (x : PEnt) : Prop := ∃ c d k a l, r = [.int .i64 c, .int .i64 d, .int .i64 k, a] ∧ RT G w a l ∧ x = ([c], d :: k :: l)
theorem mov_ses : Mov RSes := fun _ _ _ _ _ _ h _ hm => by
  obtain ⟨c, d, k, a, l, e, h1, h2⟩ := h
  exact ⟨c, d, k, a, l, e, h1.mv hm, h2⟩
theorem onN4 {c d k : Int} {u : Value} (hu : u.oneCell' = true) : ∀ x ∈ [Value.int .i64 c, Value.int .i64 d, Value.int .i64 k, u], x.oneCell' = true := by
  intro x hx
  simp only [List.mem_cons, List.not_mem_nil, or_false] at hx
  rcases hx with rfl | rfl | rfl | rfl <;> first | assumption | rfl
theorem one_RN {G : Nat → Prop} {w : World} {r : List Value} {x : PEnt} (h : RSes G w r x) : ∀ v ∈ r, v.oneCell' = true := by
  obtain ⟨c, d, k, a, l, rfl, h1, h2⟩ := h
  exact onN4 h1.one
def OSes (G : Nat → Prop) (w : World) (r : List Value) (x : PEnt) : Prop := ∃ c d k a l, r = [.int .i64 c, .int .i64 d, .int .i64 k, a] ∧ OT G w a l ∧ x = ([c], d :: k :: l)
theorem mov_oses : Mov OSes := fun _ _ _ _ _ _ h _ hm => by
  obtain ⟨c, d, k, a, l, e, h1, h2⟩ := h
  exact ⟨c, d, k, a, l, e, h1.mv hm, h2⟩
theorem OSes.ses {G : Nat → Prop} {w : World} {r : List Value} {x : PEnt} (h : OSes G w r x) : RSes G w r x := by
  obtain ⟨c, d, k, a, l, e, h1, h2⟩ := h
  exact ⟨c, d, k, a, l, e, h1.rt, h2⟩
theorem RL.ses {G : Nat → Prop} {w : World} {v : Value} {ys : List PEnt} (h : RL OSes 4 G w v ys) : RL RSes 4 G w v ys := by
  obtain ⟨rows, h1, h2⟩ := h
  exact ⟨rows, h1, h2.mono fun _ _ h => h.ses⟩
theorem RL.wf {G : Nat → Prop} {w : World} {v : Value} {ys : List PEnt} (h : RL RSes 4 G w v ys) : wfN ys := fun e he => by
  obtain ⟨rows, h1, h2⟩ := h
  obtain ⟨i, hi, rfl⟩ := List.getElem_of_mem he
  obtain ⟨c, d, k, a, l, _, _, e2⟩ := h2.get (List.getElem?_eq_getElem (by rw [h2.len]; exact hi)) (List.getElem?_eq_getElem hi)
  exact ⟨c, d, k, l, e2⟩
def szN (x : PEnt) : Prop := szT (sv x)

theorem Tryz.infN : (Tryz.prog.info? 43).map (fun i => (i.zero, i.size, i.bytes)) = some (some (.agg #[.int .i64 0, .int .i64 0, .int .i64 0, .slice none 0 0]), 4, 48) := by kernel_rfl
theorem Tryz.sizN : (Tryz.prog.info? 43).map (·.size) = some 4 := by kernel_rfl
theorem on2 {k : Int} {u : Value} (hu : u.oneCell' = true) : ∀ x ∈ [Value.int .i64 k, u], x.oneCell' = true := by
  intro x hx
  simp only [List.mem_cons, List.not_mem_nil, or_false] at hx
  rcases hx with rfl | rfl <;> first | assumption | rfl

set_option maxRecDepth 10000 in
set_option maxHeartbeats 2000000 in
/-- clone.Result. -/
theorem cloneResult_any (w : World) (k : Int) (vo : Value) (l : List Int) (ho : Rd w vo l) (z1 : szT l) :
    Calls Tryz.prog 31 #[.agg #[.int .i64 k, vo]] w fun e w' => ∃ a', e = .returned (.agg #[.int .i64 k, a']) ∧ OT (From w.heap.size) w' a' l ∧ Below w.heap.size w w' := by
  obtain ⟨w2, hw2⟩ : ∃ w2, w2 = (w.alloc (.cells #[.int .i64 k, vo] 34)).alloc (.cells #[.int .i64 0, .slice none 0 0] 34) := ⟨_, rfl⟩
  have ra : Row w2 w.heap.size 34 [.int .i64 k, vo] := by rw [hw2]; exact rowA (Row.new w 34 _) _
  have rr : Row w2 (w.heap.size + 1) 34 [.int .i64 0, .slice none 0 0] := by
    rw [hw2]
    have := Row.new (w.alloc (.cells #[.int .i64 k, vo] 34)) 34 [.int .i64 0, .slice none 0 0]
    simpa using this
  have hB : Below w.heap.size w w2 := by rw [hw2]; exact ((Below.refl _ w).alloc (Nat.le_refl _) _).alloc (by simp) _
  have hsz : w2.heap.size = w.heap.size + 2 := by rw [hw2]; simp
  go_enter Tryz.func31, Tryz.ntmps31
  go_upto_region 1 with fail
  rw [← hw2]
  clear hw2
  have HS := (show Hid (w2.heap.size = w.heap.size + 2) from hsz)
  clear hsz
  have c2 := ra.cell (j := 1) rfl
  have ho2 := ho.below hB
  go_wp2_with (first
    | (go_at_call 71; refine (clone_own w2 _ l ho2 (Nat.le_trans z1 (by decide))).mono ?_; rintro e w3 ⟨v3, rfl, o3, f3, hb3⟩; have ra3 := ra.below hb3; have f3 := OT.own o3 ho2.1 f3; clear o3)
    | (refine wl_set rfl _ _ _ rfl w.heap.size 1 _ rfl rfl _ _ ra3 (show 1 < 2 by decide) (by kernel_rfl) f3.one ?_; intro w4 ra4 hg4; have ra4' : Row w4 w.heap.size 34 [.int .i64 k, v3] := ra4.out; have hB3 := below_and hB (Nat.le_refl _) hb3; have hB4 : Below w.heap.size w w4 := hB3.trans (grown_below hg4 hB3.size (fun k hk => by cases hk; exact Nat.le_refl _)); have rr4 := (rr.below hb3).grown hg4 (fun e => by injection e with e; omega))
    | (refine wl_load rfl _ _ rfl w.heap.size rfl _ _ ra4' _ Tryz.underlying34 rfl (by kernel_rfl) ?_)
    | (refine wl_store rfl _ _ _ rfl (w.heap.size + 1) [.int .i64 k, v3] rfl rfl _ _ rr4 rfl (by kernel_rfl) (on2 f3.one) ?_; intro w7 hr7 hg7))
  have hs2 := HS.out
  have f4 := f3.mv (Mv.from (L := w.heap.size + 2) hg4 (by omega) (by omega))
  have f7 := f4.mv (Mv.from (L := w.heap.size) hg7 (by omega) (by omega))
  have hB7 := hB4.trans (grown_below hg7 hB4.size (fun k hk => by cases hk; omega))
  have hr7 := hr7.out
  refine bodyPost_ret (v := .agg ([.int .i64 k, v3] : List Value).toArray) (results_cell_row rfl _ _ (w.heap.size + 1) _ _ (0, 0) _ (by rfl) hr7 Tryz.underlying34 rfl (by kernel_rfl)) rfl ?_
  exact ⟨_, rfl, f7, hB7⟩

set_option maxRecDepth 10000 in
set_option maxHeartbeats 2000000 in
/-- clone.Session. -/
theorem cloneSession_any (w : World) (r : List Value) (x : PEnt) (h : RSes Any w r x) (hz : szN x) :
    Calls Tryz.prog 57 #[.agg r.toArray] w fun e w' => ∃ r', e = .returned (.agg r'.toArray) ∧ OSes (From w.heap.size) w' r' x ∧ Below w.heap.size w w' := by
  obtain ⟨c, d, k, vo, l, rfl, ho, hx2⟩ := h
  have z1 : szT l := by have : szT (sv x) := hz; rw [hx2] at this; exact this
  obtain ⟨w2, hw2⟩ : ∃ w2, w2 = (w.alloc (.cells #[.int .i64 c, .int .i64 d, .int .i64 k, vo] 43)).alloc (.cells #[.int .i64 0, .int .i64 0, .int .i64 0, .slice none 0 0] 43) := ⟨_, rfl⟩
  have ra : Row w2 w.heap.size 43 [.int .i64 c, .int .i64 d, .int .i64 k, vo] := by rw [hw2]; exact rowA (Row.new w 43 _) _
  have rr : Row w2 (w.heap.size + 1) 43 [.int .i64 0, .int .i64 0, .int .i64 0, .slice none 0 0] := by
    rw [hw2]
    have := Row.new (w.alloc (.cells #[.int .i64 c, .int .i64 d, .int .i64 k, vo] 43)) 43 [.int .i64 0, .int .i64 0, .int .i64 0, .slice none 0 0]
    simpa using this
  have hB : Below w.heap.size w w2 := by rw [hw2]; exact ((Below.refl _ w).alloc (Nat.le_refl _) _).alloc (by simp) _
  have hsz : w2.heap.size = w.heap.size + 2 := by rw [hw2]; simp
  go_enter Tryz.func57, Tryz.ntmps57
  go_upto_region 1 with fail
  rw [← hw2]
  clear hw2
  have HS := (show Hid (w2.heap.size = w.heap.size + 2) from hsz)
  clear hsz
  have hrng : w2.rangeAt w.heap.size 2 [.int .i64 k, vo] := fun j v hj => ra.cell (by
    match j, hj with
    | 0, hj => exact hj
    | 1, hj => exact hj)
  have ho2 := (ho.mv (Mv.below hB)).1
  go_wp2_with (first
    | (refine wpList_load_mid rfl _ _ rfl w.heap.size 2 rfl [.int .i64 k, vo] _ hrng Tryz.underlying34 rfl (by kernel_rfl) ?_)
    | (go_at_call 31; refine (cloneResult_any w2 k _ l ho2 z1).mono ?_; rintro e w3 ⟨v3, rfl, f3, hb3⟩; have ra3 := ra.below hb3)
    | (refine wl_put rfl _ _ _ rfl w.heap.size 2 [.int .i64 k, v3] rfl rfl _ _ ra3 (by show 4 ≤ 4; decide) (by kernel_rfl) (on2 f3.one) ?_; intro w4 ra4 hg4; have ra4' : Row w4 w.heap.size 43 [.int .i64 c, .int .i64 d, .int .i64 k, v3] := ra4.out; have hB3 := below_and hB (Nat.le_refl _) hb3; have hB4 : Below w.heap.size w w4 := hB3.trans (grown_below hg4 hB3.size (fun k hk => by cases hk; exact Nat.le_refl _)); have rr4 := (rr.below hb3).grown hg4 (fun e => by injection e with e; omega))
    | (refine wl_load rfl _ _ rfl w.heap.size rfl _ _ ra4' _ Tryz.underlying43 rfl (by kernel_rfl) ?_)
    | (refine wl_store rfl _ _ _ rfl (w.heap.size + 1) [.int .i64 c, .int .i64 d, .int .i64 k, v3] rfl rfl _ _ rr4 rfl (by kernel_rfl) (onN4 f3.one) ?_; intro w7 hr7 hg7))
  have hs2 := HS.out
  have f4 := f3.mv (Mv.from (L := w.heap.size + 2) hg4 (by omega) (by omega))
  have f7 := f4.mv (Mv.from (L := w.heap.size) hg7 (by omega) (by omega))
  have hB7 := hB4.trans (grown_below hg7 hB4.size (fun k hk => by cases hk; omega))
  have hr7 := hr7.out
  refine bodyPost_ret (v := .agg ([.int .i64 c, .int .i64 d, .int .i64 k, v3] : List Value).toArray) (results_cell_row rfl _ _ (w.heap.size + 1) _ _ (0, 0) _ (by rfl) hr7 Tryz.underlying43 rfl (by kernel_rfl)) rfl ?_
  exact ⟨_, rfl, ⟨_, _, _, _, _, rfl, f7, hx2⟩, hB7⟩
end Go.Proofs.YtejkkhlblnepeaaGreat
end

section
set_option linter.unusedVariables false
set_option linter.unusedSimpArgs false
namespace Go.Proofs.YtejkkhlblnepeaaGreat
open Go.RowKit Oct Kvl

set_option maxRecDepth 10000 in
/-- slices.Clone of sessions. -/
theorem scloneN_any (w : World) (v : Value) (ys : List PEnt) (h : RL RSes 4 Any w v ys) (hz : szL 48 szN ys) :
    Calls Tryz.prog 92 #[v] w fun e w' => ∃ v', e = .returned v' ∧ Below w.heap.size w w' ∧ ∃ rows, w'.ownsRow w.heap.size 43 4 v' ys.length rows.flatten ∧ (∀ r ∈ rows, r.length = 4) ∧ All2 (RSes Any w) rows ys := by
  obtain ⟨rows, ⟨h0, h1⟩, h2⟩ := h
  have hlen := h2.len
  have hz1 := hz.1
  have hfl := flat_len h0
  have hone : ∀ u ∈ rows.flatten, u.oneCell' = true := by
    intro u hu
    obtain ⟨r, hr, hur⟩ := List.mem_flatten.1 hu
    obtain ⟨i, hi, rfl⟩ := List.getElem_of_mem hr
    have := h2.get (List.getElem?_eq_getElem hi) (List.getElem?_eq_getElem (by omega))
    exact one_RN this u hur
  have hcell : ∀ b off, (∀ (i : Nat) (r : List Value), rows[i]? = some r → w.rangeAt b (off + i * 4) r) → ∀ j u, rows.flatten[j]? = some u → w.cell? ⟨b, off + j, none⟩ = some u := by
    intro b off hr j u hu
    have hj : j < rows.length * 4 := by rw [← hfl]; exact (List.getElem?_eq_some_iff.1 hu).1
    have hi : j / 4 < rows.length := by omega
    have hk := h0 _ (List.getElem_mem hi)
    have hjm : j % 4 < rows[j / 4].length := by omega
    have e1 := flat_at (j := j % 4) h0 (List.getElem?_eq_getElem hi) (List.getElem?_eq_getElem hjm)
    rw [show j / 4 * 4 + j % 4 = j by omega] at e1
    have e2 := hr (j / 4) _ (List.getElem?_eq_getElem hi) (j % 4) _ (List.getElem?_eq_getElem hjm)
    rw [show off + j / 4 * 4 + j % 4 = off + j by omega] at e2
    rw [e1] at hu
    rw [e2, hu]
  have HR := (show Hid (All2 (RSes Any w) rows ys) from h2)
  have HN := (show Hid (rows.flatten.length = rows.length * 4) from hfl)
  have HO := (show Hid (∀ u ∈ rows.flatten, u.oneCell' = true) from hone)
  obtain ⟨i0, hi, hz0, hzs, hzb⟩ := info_parts Tryz.infN
  rcases h1 with ⟨ao, cap, rfl, rfl, hcap⟩ | ⟨b, off, cap, rfl, hc1, hc2, hpos, _, hb, hr⟩
  · obtain rfl : ys = [] := List.eq_nil_of_length_eq_zero (by simpa using hlen.symm)
    cases ao with
    | none =>
      have hq : ∀ (n c : Nat) (u : World), (binOp .eql 24 (.slice none 0 cap) (.slice none n c)).run Tryz.prog u = .ok (.bool true) u := fun n c u => Lib.run_eql_slice_nil u 24 43 none 0 cap n c Tryz.underlying24
      go_enter Tryz.func92, Tryz.ntmps92
      go_wp2_with fail
      go_ret
      exact ⟨_, rfl, Below.refl _ _, [], World.ownsRow_nil _ _ _ _, (fun r hr => by cases hr), trivial⟩
    | some a =>
      have hq : ∀ (n c : Nat) (u : World), (binOp .eql 24 (.slice (some a) 0 cap) (.slice none n c)).run Tryz.prog u = .ok (.bool false) u := fun n c u => Lib.run_eql_slice_nil u 24 43 (some a) 0 cap n c Tryz.underlying24
      go_enter Tryz.func92, Tryz.ntmps92
      go_wp2_with (at_builtin; refine wpList_append_own _ rfl _ _ 24 rfl w.heap.size 43 i0 _ 4 48 Tryz.underlying24 hi hz0 hzs hzb rfl (by decide) _ _ _ rfl (World.ownsRow_made w #[] 0 (Nat.le_refl _) (Nat.zero_le _) (by simp)) a 0 cap [] rfl rfl (fun j u hu => by simp at hu) (fun u hu => by cases hu) (by simp) (by simp) (by simp) ?_; intro v' w1 hown hgrow hnil)
      go_ret
      exact ⟨_, rfl, ((Below.refl _ w).alloc (Nat.le_refl _) _).grown hgrow (by simp) (fr_at _ _ _ _ (Nat.le_refl _)), [], by simpa using hown, (fun r hr => by cases hr), trivial⟩
  · have HC := (show Hid (∀ j u, rows.flatten[j]? = some u → w.cell? ⟨b, off + j, none⟩ = some u) from hcell b off hr)
    have hq : ∀ (n c : Nat) (u : World), (binOp .eql 24 (.slice (some ⟨b, off, none⟩) rows.length cap) (.slice none n c)).run Tryz.prog u = .ok (.bool false) u := fun n c u => Lib.run_eql_slice_nil u 24 43 (some ⟨b, off, none⟩) rows.length cap n c Tryz.underlying24
    have hb1 : rows.length * 48 ≤ 140737488355328 := by rw [hlen]; omega
    have hm1 : rows.length ≤ maxLen := by unfold maxLen at *; omega
    have HQ := (show Hid (∀ j u, rows.flatten[j]? = some u → (w.alloc (.cells #[] 43)).cell? ((⟨b, off, none⟩ : Addr).add j) = some u) from fun j u hj => by
      rw [Addr.add_mid]
      exact ((below_alloc w _).cell (p := ⟨b, off + j, none⟩) hb).trans (HC.out j u hj))
    have HL := (show Hid (rows.length = ys.length) from hlen)
    clear hr hcell hfl hone h2 hlen
    go_enter Tryz.func92, Tryz.ntmps92
    go_wp2_with (at_builtin; refine wpList_append_own _ rfl _ _ 24 rfl w.heap.size 43 i0 _ 4 48 Tryz.underlying24 hi hz0 hzs hzb rfl (by decide) _ _ _ rfl (World.ownsRow_made w #[] 0 (Nat.le_refl _) (Nat.zero_le _) (by simp)) ⟨b, off, none⟩ rows.length cap rows.flatten rfl HN.out HQ.out HO.out (by rw [Nat.zero_add]; exact hm1) (by rw [Nat.zero_add]; exact hb1) (by simp) ?_; intro v' w1 hown hgrow hnil)
    go_ret
    exact ⟨_, rfl, ((Below.refl _ w).alloc (Nat.le_refl _) _).grown hgrow (by simp) (fr_at _ _ _ _ (Nat.le_refl _)), rows, by rw [← HL.out]; simpa using hown, h0, HR.out⟩
end Go.Proofs.YtejkkhlblnepeaaGreat
end

section
set_option linter.unusedVariables false
set_option linter.unusedSimpArgs false
namespace Go.Proofs.YtejkkhlblnepeaaGreat
open Go.RowKit Oct Kvl

/-- A row of sessions of which the first q are copied. -/
structure MixN (B g n cap q : Nat) (w0 w : World) (rows0 : List (List Value)) (ys : List PEnt) : Prop where
  bel : Below B w0 w
  ex : ∃ (cur : List Value) (A : List (List Value)), Row w g 43 cur ∧ cur.length = cap * 4 ∧ A.length = q ∧ (∀ r ∈ A, r.length = 4) ∧ cur.take (n * 4) = (A ++ rows0.drop q).flatten ∧ All2 (OSes (fun b => B ≤ b ∧ b ≠ g) w) A (ys.take q)

theorem MixN.row {B g n cap q : Nat} {w0 w : World} {rows0 : List (List Value)} {ys : List PEnt} (h : MixN B g n cap q w0 w rows0 ys) (h0 : ∀ r ∈ rows0, r.length = 4) {r : List Value} (hr : rows0[q]? = some r) (hq : q < n) : w.rangeAt g (q * 4) r := by
  obtain ⟨cur, A, h1, h2, h3, h4, h5, h6⟩ := h.ex
  intro j v hj
  refine h1.cell ?_
  have hrl := h0 r (List.mem_of_getElem? hr)
  have hjl : j < 4 := by rw [← hrl]; exact (List.getElem?_eq_some_iff.1 hj).1
  have e : (A ++ rows0.drop q)[q]? = some r := by rw [List.getElem?_append_right (by omega), h3, Nat.sub_self, List.getElem?_drop, Nat.add_zero]; exact hr
  have hl : ∀ x ∈ A ++ rows0.drop q, x.length = 4 := fun x hx => by
    rcases List.mem_append.1 hx with hx | hx
    · exact h4 x hx
    · exact h0 x (List.mem_of_mem_drop hx)
  have := flat_at hl e hj
  rw [← h5, List.getElem?_take, if_pos (by omega)] at this
  exact this
theorem MixN.step {B g n cap q : Nat} {w0 w w1 w2 : World} {rows0 : List (List Value)} {ys : List PEnt} (h : MixN B g n cap q w0 w rows0 ys) (h0 : ∀ r ∈ rows0, r.length = 4) (hn : rows0.length = n) (hc : n ≤ cap) {x : PEnt} (hx : ys[q]? = some x) (hq : q < n)
    (hb1 : Below w.heap.size w w1) (hBg : B ≤ g) {r : List Value} (hr : OSes (From w.heap.size) w1 r x) (hB : B ≤ w.heap.size) (hg2 : w1.grownBy w2 (some g)) {cur0 : List Value} (hc0 : Row w1 g 43 cur0) (hr2 : Row w2 g 43 (splice cur0 (q * 4) r)) : MixN B g n cap (q + 1) w0 w2 rows0 ys := by
  obtain ⟨cur, A, h1, h2, h3, h4, h5, h6⟩ := h.ex
  have hgl := h1.lt
  obtain rfl : cur = cur0 := (h1.below hb1).uniq hc0
  have hrl : r.length = 4 := by obtain ⟨c, d, k, a, l, rfl, _⟩ := hr; rfl
  refine ⟨(h.bel.trans (hb1.mono hB)).trans (grown_below hg2 (Nat.le_trans hB hb1.size) (fun k hk => by cases hk; exact hBg)), splice cur (q * 4) r, A ++ [r], hr2, ?_, ?_, ?_, ?_, ?_⟩
  · rw [length_splice _ _ _ (by omega), h2]
  · simp [h3]
  · intro y hy
    rcases List.mem_append.1 hy with hy | hy
    · exact h4 y hy
    · simp at hy; subst hy; exact hrl
  · obtain ⟨b0, hb0⟩ : ∃ b0, rows0[q]? = some b0 := ⟨_, List.getElem?_eq_getElem (by omega)⟩
    have hd : rows0.drop q = b0 :: rows0.drop (q + 1) := by
      rw [List.drop_eq_getElem_cons (by omega : q < rows0.length)]
      rw [List.getElem?_eq_getElem (by omega)] at hb0
      injection hb0 with hb0
      rw [hb0]
    rw [hd] at h5
    rw [List.append_assoc, List.singleton_append]
    refine flat_put h4 (fun y hy => ?_) hrl h3 ?_ (by omega) h5
    · rw [← hd] at hy; exact h0 y (List.mem_of_mem_drop hy)
    · rw [← hd, List.length_append, List.length_drop]; omega
  · have e : ys.take (q + 1) = ys.take q ++ [x] := by
      rw [List.take_add_one, hx]; rfl
    rw [e]
    refine All2.app (h6.mono fun y a hy => mov_oses _ _ _ _ _ _ hy (Nat.le_trans hb1.size hg2.size) fun k hk hlt => ⟨?_, hk⟩) ⟨mov_oses _ _ _ _ _ _ hr hg2.size fun k hk hlt => ⟨hg2.block k hlt (fun e => ?_), Nat.le_trans hB hk, fun e => ?_⟩, trivial⟩
    · have hs := hb1.size
      exact (hg2.block k (by omega) (fun e => by injection e with e; exact hk.2 e)).trans (hb1.block k hlt)
    · injection e with e
      unfold From at hk; omega
    · unfold From at hk; omega
theorem MixN.done {B g n cap : Nat} {w0 w : World} {rows0 : List (List Value)} {ys : List PEnt} (h : MixN B g n cap n w0 w rows0 ys) (hn : rows0.length = n) (hy : ys.length = n) (hc : n ≤ cap) (hm : cap ≤ maxLen) (hB : B ≤ g) : LB OSes 43 4 B w (.slice (some ⟨g, 0, none⟩) n cap) ys := by
  obtain ⟨cur, A, h1, h2, h3, h4, h5, h6⟩ := h.ex
  rw [List.drop_of_length_le (by omega), List.append_nil] at h5
  rw [List.take_of_length_le (by omega)] at h6
  refine ⟨A, h4, ⟨flat_len h4, .inr ⟨g, cap, cur.toArray, by rw [h3], Nat.zero_le _, h1, by omega, hm, by simpa using h2, by rw [h3]; simpa using h5⟩⟩, fr_at _ _ _ _ hB, h6.mono fun y a hy => mov_oses _ _ _ _ _ _ hy (Nat.le_refl _) fun k hk _ => ⟨rfl, hk.1, fun e => hk.2 ?_⟩⟩
  simp [Value.ownBlock] at e
  exact e.symm

set_option maxRecDepth 10000 in
set_option maxHeartbeats 2000000 in
/-- clone.list of sessions. -/
theorem clistN_any (w : World) (v : Value) (ys : List PEnt) (h : RL RSes 4 Any w v ys) (hz : szL 48 szN ys) :
    Calls Tryz.prog 56 #[v, .func (.func 57) #[] #[]] w fun e w' => ∃ v', e = .returned v' ∧ LB OSes 43 4 w.heap.size w' v' ys ∧ Below w.heap.size w w' := by
  go_enter Tryz.func56, Tryz.ntmps56
  go_wp2_with fail
  refine (scloneN_any w v ys h hz).mono ?_
  rintro e w1 ⟨v1, rfl, hb1, rows, hown, h0, hall⟩
  have hlen := hall.len
  rcases hown.2 with ⟨rfl, hy0⟩ | ⟨g, cap, cur, rfl, hg0, hrow, hc1, hc2, hc3, hc4⟩
  · obtain rfl : ys = [] := List.eq_nil_of_length_eq_zero hy0
    go_wp2_with fail
    refine wp_loop_rounds 1 ?_; rw [rounds_succ]
    go_wp2_with fail
    go_ret
    exact ⟨_, rfl, LB.nil _ _ _ _ _, hb1⟩
  · have hlm : (ys.length : Int) ≤ 9223372036854775807 := by unfold maxLen at hc2; omega
    have m0 : Hid (MixN w.heap.size g ys.length cap 0 w w1 rows ys) := ⟨hb1, cur.toList, [], by unfold Row; simpa using hrow, by simpa using hc3, rfl, (fun r hr => by cases hr), by simpa using hc4, trivial⟩
    have HL := (show Hid (rows.length = ys.length) from hlen)
    have H0 := (show Hid (∀ r ∈ rows, r.length = 4) from h0)
    have HA := (show Hid (All2 (RSes Any w) rows ys) from hall)
    have HZ := (show Hid (∀ y ∈ ys, szN y) from hz.2)
    clear hown hrow hc3 hc4 hlen h0 hall hb1 h hz
    obtain ⟨n, hn⟩ : ∃ n, n = ys.length := ⟨_, rfl⟩
    rw [← hn] at hlm m0 hc1 HL ⊢
    have HN := (show Hid (ys.length = n) from hn.symm)
    clear hn
    go_wp2_with fail
    go_loopw [12] (fun i wr => ∃ q : Nat, q ≤ n ∧ i = .int .i64 q ∧ Hid (MixN w.heap.size g n cap q w wr rows ys)) (fun i _ => n - (intOf i).toNat)
    case atStart => exact ⟨0, by omega, rfl, m0⟩
    case round =>
      clear m0
      obtain ⟨q, hq, rfl, hM⟩ := hrel
      by_cases hql : q < n
      · obtain ⟨x, hx⟩ : ∃ x, ys[q]? = some x := ⟨_, List.getElem?_eq_getElem (by have := HN.out; omega)⟩
        obtain ⟨r, hr⟩ : ∃ r, rows[q]? = some r := ⟨_, List.getElem?_eq_getElem (by have := HL.out; omega)⟩
        have hxr := HA.out.get hr hx
        have hrng := hM.out.row H0.out hr hql
        obtain ⟨c1, d1, k1, s1, l1, rfl, t1, t2⟩ := hxr
        have hB := hM.out.bel
        have hzx := HZ.out x (List.mem_of_getElem? hx)
        have hrow0 := Row.new wr 43 [.int .i64 0, .int .i64 0, .int .i64 0, .slice none 0 0]
        have HX := (show Hid (ys[q]? = some x) from hx)
        have hone := onN4 (c := c1) (d := d1) (k := k1) t1.one
        clear hx hr
        obtain ⟨cur0, A0, kr1, kr2, _⟩ := hM.out.ex
        have hgl := kr1.lt
        have hfit : q * 4 + 4 ≤ cur0.length := by omega
        have K1 := (show Hid (Row wr g 43 cur0) from kr1)
        clear kr1 kr2
        go_wp2_with (first
          | (refine wpList_load_mid rfl _ _ rfl g (q * 4) rfl [.int .i64 c1, .int .i64 d1, .int .i64 k1, s1] _ hrng Tryz.underlying43 rfl (by kernel_rfl) ?_)
          | (refine wl_store rfl _ _ _ rfl wr.heap.size [.int .i64 c1, .int .i64 d1, .int .i64 k1, s1] rfl rfl _ _ hrow0 rfl (by kernel_rfl) hone ?_; intro w5 hr5 hg5; have hb5 : Below wr.heap.size wr w5 := (below_alloc wr _).trans (grown_below hg5 (by simp) (fun k hk => by cases hk; exact Nat.le_refl _)); have hx5 : RSes Any w5 [.int .i64 c1, .int .i64 d1, .int .i64 k1, s1] x := mov_ses _ _ _ _ _ _ ⟨_, _, _, _, _, rfl, t1, t2⟩ (below_and hB (Nat.le_refl _) hb5).size (Mv.below (below_and hB (Nat.le_refl _) hb5)))
          | (refine wl_load rfl _ _ rfl wr.heap.size rfl _ _ hr5.out _ Tryz.underlying43 rfl (by kernel_rfl) ?_)
          | (go_at_call 57; refine (cloneSession_any w5 [.int .i64 c1, .int .i64 d1, .int .i64 k1, s1] x hx5 hzx).mono ?_; rintro e w6 ⟨r6, rfl, o6, hb6⟩; have o6' := mov_oses _ (From wr.heap.size) _ _ _ _ o6 (Nat.le_refl _) (Mv.weak hb5.size); obtain ⟨c6, d6, k6, a6, l6, rfl, p6, q6⟩ := o6; have hb6' := below_and hb5 (Nat.le_refl _) hb6; have kk6 := K1.out.below hb6')
          | (refine wl_put rfl _ _ _ rfl g (q * 4) [.int .i64 c6, .int .i64 d6, .int .i64 k6, a6] rfl rfl _ _ kk6 hfit (by kernel_rfl) (onN4 p6.one) ?_; intro w7 hr7 hg7))
        go_roundw
        case rel => exact ⟨q + 1, by omega, by go_num, hM.out.step H0.out HL.out hc1 HX.out hql hb6' hg0 o6' hB.size hg7 kk6 hr7.out⟩
        case measure => simp [intOf]; omega
      · go_wp2_with fail
        go_ret
        obtain rfl : q = n := by omega
        exact ⟨_, rfl, hM.out.done HL.out HN.out hc1 hc2 hg0, hM.out.bel⟩

end Go.Proofs.YtejkkhlblnepeaaGreat
end

section
set_option linter.unusedVariables false
set_option linter.unusedSimpArgs false
namespace Go.Proofs.YtejkkhlblnepeaaGreat
open Go.RowKit Oct Kvl

theorem run_overN (w : World) (g vb i lb cb : Nat) (hne : vb ≠ g) (cur r : List Value) (hr : r.length = 4) (hg : Row w g 43 cur) (hc : cur ≠ []) (hv : Row w vb 43 r) :
    (callFunc 120 #[.slice (some ⟨vb, 0, none⟩) 1 1, .slice (some ⟨g, i, none⟩) lb cb]).run Tryz.prog w = .ok (.value (.bool false)) w := by
  have hz : ∀ w, (Go.sizeOf 43).run Tryz.prog w = .ok 4 w := fun w => by
    obtain ⟨i0, hi, hz0, hz1, hz2⟩ := info_parts Tryz.infN
    simp [sizeOf, typeInfo, hi, hz1]
  have s1 : w.shape? vb = some (43, 4) := by
    unfold Row at hv
    simp [World.shape?, hv, hr]
  have s2 : w.shape? g = some (43, cur.length) := by
    unfold Row at hg
    simp [World.shape?, hg]
  rw [run_callFunc_extern Tryz.func120 (by kernel_rfl) (by kernel_rfl) (by kernel_rfl) (e := Extern.SlicesOverlaps.overlaps #[24, 24] #[4]) (by kernel_rfl),
    Lib.run_overlaps_apart w 24 4 43 Tryz.underlying24 4 hz ⟨vb, 0, none⟩ ⟨g, i, none⟩ 1 1 lb cb hne 43 43 4 cur.length s1 s2 (fun e => hc (List.eq_nil_of_length_eq_zero e)) (hv.frozen 0) (hv.frozen 4)]
  rfl
set_option maxHeartbeats 1000000 in
set_option maxRecDepth 100000 in
/-- slices.Insert, ahead of the end, where there is room. -/
theorem insertN_room (w : World) (g cap n i vb : Nat) (cur L r : List Value) (hrow : Row w g 43 cur) (hcl : cur.length = cap * 4) (hL : L.length = n * 4) (ht : cur.take (n * 4) = L) (hi : i < n) (hroom : n + 1 ≤ cap) (hcap : cap ≤ maxLen) (hn : n ≤ 64) (h1 : ∀ u ∈ L, u.oneCell' = true)
    (hne : vb ≠ g) (hv : Row w vb 43 r) (hr : r.length = 4) (h1r : ∀ u ∈ r, u.oneCell' = true) :
    Calls Tryz.prog 99 #[.slice (some ⟨g, 0, none⟩) n cap, .int .i64 (i : Int), .slice (some ⟨vb, 0, none⟩) 1 1] w fun e w' =>
      e = .returned (.slice (some ⟨g, 0, none⟩) (n + 1) cap) ∧ w.grownBy w' (some g) ∧ ∃ cur', Row w' g 43 cur' ∧ cur'.length = cap * 4 ∧ cur'.take ((n + 1) * 4) = L.take (i * 4) ++ (r ++ L.drop (i * 4)) := by
  have hov := fun lb cb => run_overN w g vb ((i + 1) * 4) lb cb hne cur r hr hrow (fun e => by rw [e] at hcl; simp at hcl; omega) hv
  have hdl : (L.drop (i * 4)).length = (n - i) * 4 := by rw [List.length_drop, hL]; omega
  have hsrc : ∀ j v, (L.drop (i * 4))[j]? = some v → w.cell? ((⟨g, i * 4, none⟩ : Addr).add j) = some v := fun j v hj => by
    rw [Addr.add_mid]
    rw [List.getElem?_drop] at hj
    exact hrow.atL ht hj
  have hfit : (i + 1) * 4 + (L.drop (i * 4)).length ≤ cur.length := by omega
  have hfin : (splice (splice cur ((i + 1) * 4) (L.drop (i * 4))) (i * 4) r).take ((n + 1) * 4) = L.take (i * 4) ++ (r ++ L.drop (i * 4)) := by
    have := spl1 cur (L.drop (i * 4)) r (i * 4) (by omega)
    rw [hr, hdl, show i * 4 + 4 + (n - i) * 4 = (n + 1) * 4 by omega, show i * 4 + 4 = (i + 1) * 4 by omega] at this
    rw [this, ← ht, List.take_take, Nat.min_eq_left (by omega)]
  have HI := (show Hid _ from hfin)
  have HR := (show Hid (Row w g 43 cur) from hrow)
  have HV := (show Hid (Row w vb 43 r) from hv)
  have HS := (show Hid (∀ j v, (L.drop (i * 4))[j]? = some v → w.cell? ((⟨g, i * 4, none⟩ : Addr).add j) = some v) from hsrc)
  have HF := (show Hid ((i + 1) * 4 + (L.drop (i * 4)).length ≤ cur.length) from hfit)
  have HL := (show Hid ((L.drop (i * 4)).length = (n - i) * 4) from hdl)
  have HO := (show Hid (∀ u ∈ L.drop (i * 4), u.oneCell' = true) from fun u hu => h1 u (List.mem_of_mem_drop hu))
  have HC := (show Hid (cur.length = cap * 4) from hcl)
  have HRL := (show Hid (r.length = 4) from hr)
  clear hrow hv hsrc hfit hdl h1 hcl ht hfin hL hr
  generalize L.drop (i * 4) = D at *
  have hz2 : ((i : Int) == (n : Int)) = false := by simp; omega
  have hb2 : ¬ (cap = i + 1) := by omega
  have hb4 : ¬ (cap = i) := by omega
  have hb0 : ¬ (cap = 0) := by omega
  have hb1 : (0 : Int) ≤ (i : Int) + 1 := by omega
  have hb3 : (i : Int) ≤ (n : Int) + 1 := by omega
  have hb5 : (i : Int) ≤ (n : Int) := by omega
  have hb6 : (i : Int) + 1 ≤ (n : Int) + 1 := by omega
  have hw1 : IntKind.i64.wrap ((i : Int) + 1) = (i : Int) + 1 := by rw [IntKind.wrap_i64]; omega
  have hin : i ≤ n := by omega
  have htn : ((i : Int) + 1).toNat = i + 1 := by omega
  have hcm : (cap : Int) ≤ 9223372036854775807 := by unfold maxLen at hcap; omega
  go_enter Tryz.func99, Tryz.ntmps99
  go_wp2_with (simp only [hov])
  clear hov
  go_region_law ((refine step_copy_k (by rfl) _ _ _ _ (by rfl) 43 4 Tryz.underlying24 Tryz.sizN (some ⟨g, (i + 1) * 4, none⟩) (some ⟨g, i * 4, none⟩) (n - i) (cap - (i + 1)) (n + 1 - i) (cap - i) (by simp [Act.eval, Act.put]) (by simp [Act.eval, Act.put]) g ((i + 1) * 4) cur 43 HR.out D (by rw [HL.out]; congr 1; simp only [Nat.min_def]; split <;> omega) (fun _ => ⟨rfl, _, rfl, HS.out⟩) (by decide) HF.out HO.out (n - i) (by simp only [Nat.min_def]; split <;> omega) ?_; intro w2 hr2 hg2))
  have hv2 : Row w2 vb 43 r := HV.out.grown (grown_drew hg2) (fun e => hne (Option.some.inj e).symm)
  have HS2 := (show Hid (∀ j v, r[j]? = some v → w2.cell? ((⟨vb, 0, none⟩ : Addr).add j) = some v) from fun j v hj => by
    rw [Addr.add_mid, Nat.zero_add]
    exact hv2.cell hj)
  have HF2 := (show Hid (i * 4 + r.length ≤ (splice cur ((i + 1) * 4) D).length) from by
    show i * 4 + r.length ≤ (splice cur ((i + 1) * 4) D).length
    rw [length_splice _ _ _ HF.out, HC.out, HRL.out]; omega)
  have HG2 := (show Hid (w.grownBy w2 (some g)) from grown_drew hg2)
  clear hv2 hg2
  go_wp2_with (refine wl_copy_k (by rfl) _ _ _ _ (by rfl) 43 4 Tryz.underlying24 Tryz.sizN (some ⟨g, i * 4, none⟩) (some ⟨vb, 0, none⟩) (n + 1 - i) (cap - i) 1 1 (by simp [Act.eval]) (by simp [Act.eval]) g (i * 4) (splice cur ((i + 1) * 4) D) 43 hr2.out r (by rw [HRL.out]; simp only [Nat.min_def]; split <;> omega) (fun _ => ⟨rfl, _, rfl, HS2.out⟩) (by decide) HF2.out h1r 1 (by simp only [Nat.min_def]; split <;> omega) ?_; intro w3 hr3 hg3)
  go_ret
  refine ⟨rfl, grown_trans HG2.out hg3 (.inl rfl), _, hr3.out, ?_, HI.out⟩
  rw [length_splice _ _ _ HF2.out, length_splice _ _ _ HF.out, HC.out]

set_option maxHeartbeats 1000000 in
set_option maxRecDepth 100000 in
/-- slices.Insert, ahead of the end, where there is no room. -/
theorem insertN_grow (w : World) (g cap n i vb : Nat) (cur L r : List Value) (hrow : Row w g 43 cur) (hcl : cur.length = cap * 4) (hL : L.length = n * 4) (ht : cur.take (n * 4) = L) (hi : i < n) (hnc : n ≤ cap) (hroom : cap < n + 1) (hn : n ≤ 64) (h1 : ∀ u ∈ L, u.oneCell' = true)
    (hv : Row w vb 43 r) (hr : r.length = 4) (h1r : ∀ u ∈ r, u.oneCell' = true) :
    Calls Tryz.prog 99 #[.slice (some ⟨g, 0, none⟩) n cap, .int .i64 (i : Int), .slice (some ⟨vb, 0, none⟩) 1 1] w fun e w' =>
      ∃ NC, e = .returned (.slice (some ⟨w.heap.size, 0, none⟩) (n + 1) NC) ∧ n + 1 ≤ NC ∧ NC ≤ maxLen ∧ Below w.heap.size w w' ∧ ∃ cur', Row w' w.heap.size 43 cur' ∧ cur'.length = NC * 4 ∧ cur'.take ((n + 1) * 4) = L.take (i * 4) ++ (r ++ L.drop (i * 4)) := by
  obtain rfl : cap = n := by omega
  obtain ⟨i0, hi0, hz0, hzs, hzb⟩ := info_parts Tryz.infN
  have hdl : (L.drop (i * 4)).length = (cap - i) * 4 := by rw [List.length_drop, hL]; omega
  have HR := (show Hid (Row w g 43 cur) from hrow)
  have HV := (show Hid (Row w vb 43 r) from hv)
  have HL := (show Hid ((L.drop (i * 4)).length = (cap - i) * 4) from hdl)
  have HO := (show Hid (∀ u ∈ L.drop (i * 4), u.oneCell' = true) from fun u hu => h1 u (List.mem_of_mem_drop hu))
  have HT := (show Hid (cur.take (cap * 4) = L) from ht)
  have HRL := (show Hid (r.length = 4) from hr)
  have HFC := (show Hid (i * 4 ≤ cur.length) by show i * 4 ≤ _; omega)
  clear hrow hv hdl h1 hcl ht hL hr
  have hz2 : ((i : Int) == (cap : Int)) = false := by simp; omega
  have hb4 : ¬ (cap = i) := by omega
  have hb5 : (i : Int) ≤ (cap : Int) := by omega
  have hin : i ≤ cap := by omega
  have hgt : (cap : Int) < (cap : Int) + 1 := by omega
  go_enter Tryz.func99, Tryz.ntmps99
  have he : i + (cap + 1 - i) = cap + 1 := by omega
  have hxi : (Value.int .i64 ((cap : Int) + 1 - (i : Int))) = .int .i64 ((cap + 1 - i : Nat) : Int) := by congr 1; omega
  have HS0 := (show Hid (∀ u, Below w.heap.size w u → ∀ j v, (L.drop (i * 4))[j]? = some v → u.cell? ((⟨g, i * 4, none⟩ : Addr).add j) = some v) from fun u hu j v hj => by
    rw [Addr.add_mid]
    rw [List.getElem?_drop] at hj
    exact (HR.out.below hu).atL HT.out hj)
  have hvne : vb ≠ w.heap.size := fun e => by have := HV.out.lt; omega
  have hgne : g ≠ w.heap.size := fun e => by have := HR.out.lt; omega
  have HTT := (show Hid (cur.take (i * 4) = L.take (i * 4)) by show _ = _; rw [← HT.out, List.take_take, Nat.min_eq_left (by omega)])
  go_wp2_with (first
    | (at_builtin; refine wl_app_zeros rfl _ _ _ _ rfl 43 i0 _ 4 48 Tryz.underlying24 Tryz.underlying3 hi0 hz0 hzs hzb rfl (by decide) (by decide) g i cap rfl cur HR.out HFC.out (cap + 1 - i) (by omega) hxi (by omega) (by omega) ?_; intro NC row w2 hr2 hq2 hn2 hm2 hb2; have hn2' : cap + 1 ≤ NC := (by omega); have hnc1 : ¬ (NC = i) := (by omega); have hnc2 : ¬ (NC = i + 1) := (by omega); have HS2 := (show Hid (∀ j v, r[j]? = some v → w2.cell? ((⟨vb, 0, none⟩ : Addr).add j) = some v) from fun j v hj => (by rw [Addr.add_mid, Nat.zero_add]; exact (HV.out.below hb2).cell hj)); have HF2 := (show Hid (i * 4 + r.length ≤ row.length) by show _ ≤ _; rw [hq2.out.1, HRL.out]; omega))
    | (refine wl_copy_k (by rfl) _ _ _ _ (by rfl) 43 4 Tryz.underlying24 Tryz.sizN (some ⟨w.heap.size, i * 4, none⟩) (some ⟨vb, 0, none⟩) (cap + 1 - i) (NC - i) 1 1 (by simp [Act.eval]) (by simp [Act.eval]) w.heap.size (i * 4) row 43 hr2.out r (by rw [HRL.out]; simp only [Nat.min_def]; split <;> omega) (fun _ => ⟨rfl, _, rfl, HS2.out⟩) (by decide) HF2.out h1r 1 (by simp only [Nat.min_def]; split <;> omega) ?_; intro w3 hr3 hg3))
  have hb3 : Below w.heap.size w w3 := hb2.trans (grown_below hg3 hb2.size (fun k hk => by cases hk; exact Nat.le_refl _))
  have HB3 := (show Hid (Below w.heap.size w w3) from hb3)
  have HS3 := (show Hid (∀ j v, (L.drop (i * 4))[j]? = some v → w3.cell? ((⟨g, i * 4, none⟩ : Addr).add j) = some v) from HS0.out w3 hb3)
  have HF3 := (show Hid ((i + 1) * 4 + (L.drop (i * 4)).length ≤ (splice row (i * 4) r).length) by
    show _ ≤ _
    rw [length_splice _ _ _ HF2.out, hq2.out.1, HL.out]; omega)
  have HI := (show Hid ((splice (splice row (i * 4) r) ((i + 1) * 4) (L.drop (i * 4))).take ((cap + 1) * 4) = L.take (i * 4) ++ (r ++ L.drop (i * 4))) by
    show _ = _
    have := spl2 row (L.drop (i * 4)) r (i * 4) (by rw [HRL.out, HL.out, hq2.out.1]; omega)
    rw [HRL.out, HL.out, show i * 4 + 4 + (cap - i) * 4 = (cap + 1) * 4 by omega, show i * 4 + 4 = (i + 1) * 4 by omega] at this
    rw [this, hq2.out.2, HTT.out])
  have hb1 : (0 : Int) ≤ (i : Int) + 1 := by omega
  have hb6 : (i : Int) + 1 ≤ (cap : Int) + 1 := by omega
  have hw1 : IntKind.i64.wrap ((i : Int) + 1) = (i : Int) + 1 := by rw [IntKind.wrap_i64]; omega
  have htn : ((i : Int) + 1).toNat = i + 1 := by omega
  have hcm : (NC : Int) ≤ 9223372036854775807 := by unfold maxLen at hm2; omega
  clear hb3 hg3 hb2 HS2 HS0
  generalize hDD : L.drop (i * 4) = D at *
  have HDD := (show Hid (L.drop (i * 4) = D) from hDD)
  clear hDD
  go_region_law ((refine step_copy_k (by rfl) _ _ _ _ (by rfl) 43 4 Tryz.underlying24 Tryz.sizN (some ⟨w.heap.size, (i + 1) * 4, none⟩) (some ⟨g, i * 4, none⟩) (cap - i) (NC - (i + 1)) (cap - i) (cap - i) (by simp [Act.eval, Act.put]) (by simp [Act.eval, Act.put]) w.heap.size ((i + 1) * 4) (splice row (i * 4) r) 43 hr3.out D (by rw [HL.out]; congr 1; simp only [Nat.min_def]; split <;> omega) (fun _ => ⟨rfl, _, rfl, HS3.out⟩) (by decide) HF3.out HO.out (cap - i) (by simp only [Nat.min_def]; split <;> omega) ?_; intro w4 hr4 hg4))
  have hg4 := grown_drew hg4
  have hB4 := HB3.out.trans (grown_below hg4 HB3.out.size (fun k hk => by cases hk; exact Nat.le_refl _))
  go_wp2_with fail
  go_ret
  refine ⟨NC, rfl, hn2', hm2, hB4, _, hr4.out, ?_, by rw [HDD.out]; exact HI.out⟩
  rw [length_splice _ _ _ HF3.out, length_splice _ _ _ HF2.out, hq2.out.1]

set_option maxHeartbeats 1000000 in
set_option maxRecDepth 100000 in
/-- slices.Insert, at the end. -/
theorem insertN_end (w : World) (v : Value) (B : Nat) (ys : List PEnt) (h : LB OSes 43 4 B w v ys) (hB : B ≤ w.heap.size) (hn : ys.length ≤ 64) (vb : Nat) (r : List Value) (hv : Row w vb 43 r) (y : PEnt) (hr : OSes (fun b => B ≤ b ∧ v.ownBlock ≠ some b) w r y) :
    Calls Tryz.prog 99 #[v, .int .i64 (ys.length : Int), .slice (some ⟨vb, 0, none⟩) 1 1] w fun e w' => ∃ v', e = .returned v' ∧ LB OSes 43 4 B w' v' (ys ++ [y]) ∧ w.grownBy w' v.ownBlock := by
  obtain ⟨i0, hi0, hz0, hzs, hzb⟩ := info_parts Tryz.infN
  obtain ⟨rows, h0, hown, hfr, hall⟩ := h
  have hlen := hall.len
  have hrl : r.length = 4 := by obtain ⟨c, d, k, a, l, rfl, _⟩ := hr; rfl
  have h1r := one_RN hr.ses
  rw [hlen] at hown
  have HO := (show Hid (w.ownsRow 0 43 4 v ys.length rows.flatten) from hown)
  have HS := (show Hid (∀ j u, r[j]? = some u → w.cell? ((⟨vb, 0, none⟩ : Addr).add j) = some u) from fun j u hj => by
    rw [Addr.add_mid, Nat.zero_add]
    exact hv.cell hj)
  have HL := (show Hid (rows.length = ys.length) from hlen)
  have HRL := (show Hid (r.length = 1 * 4) from hrl)
  have HA := (show Hid (All2 (OSes (fun b => B ≤ b ∧ v.ownBlock ≠ some b) w) rows ys) from hall)
  have hform : ∃ ao cap, v = .slice ao ys.length cap ∧ ys.length ≤ cap ∧ (cap : Int) ≤ 9223372036854775807 := by
    rcases hown.2 with ⟨rfl, h⟩ | ⟨g, cap, cur, rfl, _, _, h1, h2, _⟩
    · exact ⟨none, 0, by rw [h], by omega, by decide⟩
    · exact ⟨_, cap, rfl, h1, by unfold maxLen at h2; omega⟩
  clear hown hall hlen hrl
  obtain ⟨n, hnn⟩ : ∃ n, n = ys.length := ⟨_, rfl⟩
  rw [← hnn] at HO HL hn hform ⊢
  have HN := (show Hid (ys.length = n) from hnn.symm)
  clear hnn
  have hz2 : ((n : Int) == (n : Int)) = true := by simp
  have hbk : ∀ g, v.ownBlock = some g → B ≤ g := hfr
  have HFR := (show Hid (∀ g, v.ownBlock = some g → B ≤ g) from hbk)
  have HLT := (show Hid (∀ g, v.ownBlock = some g → g < w.heap.size) from fun g hg => (World.ownsRow.lt HO.out g hg).2)
  have fin : ∀ (g cap : Nat) (w' : World), w'.ownsRow 0 43 4 (.slice (some ⟨g, 0, none⟩) (n + 1) cap) (n + 1) (rows.flatten ++ r) → w.grownBy w' v.ownBlock → (v.ownBlock = some g ∨ w.heap.size ≤ g) → LB OSes 43 4 B w' (.slice (some ⟨g, 0, none⟩) (n + 1) cap) (ys ++ [y]) ∧ w.grownBy w' v.ownBlock := by
    intro g cap w' hown' hgr hat
    have hgB : B ≤ g := by
      rcases hat with hat | hat
      · exact HFR.out g hat
      · omega
    have hflat : rows.flatten ++ r = (rows ++ [r]).flatten := by simp
    have hrl : r.length = 4 := HRL.out
    refine ⟨⟨rows ++ [r], ?_, ?_, fr_at _ _ _ _ hgB, ?_⟩, hgr⟩
    · intro q hq
      rcases List.mem_append.1 hq with hq | hq
      · exact h0 q hq
      · simp at hq; subst hq; exact hrl
    · rw [List.length_append, ← hflat, HL.out]
      exact hown'
    · have mv : Mv (fun b => B ≤ b ∧ v.ownBlock ≠ some b) (fun b => B ≤ b ∧ (Value.slice (some ⟨g, 0, none⟩) (n + 1) cap).ownBlock ≠ some b) w w' := fun j hj hjl => by
        refine ⟨hgr.block j hjl (fun e => hj.2 e.symm), hj.1, fun e => ?_⟩
        simp [Value.ownBlock] at e
        rcases hat with hat | hat
        · exact hj.2 (by rw [hat, e])
        · omega
      exact All2.app (HA.out.mono fun q b hq => mov_oses _ _ _ _ _ _ hq hgr.size mv) ⟨mov_oses _ _ _ _ _ _ hr hgr.size mv, trivial⟩
  have HFI := (show Hid (∀ (g cap : Nat) (w' : World), w'.ownsRow 0 43 4 (.slice (some ⟨g, 0, none⟩) (n + 1) cap) (n + 1) (rows.flatten ++ r) → w.grownBy w' v.ownBlock → (v.ownBlock = some g ∨ w.heap.size ≤ g) → LB OSes 43 4 B w' (.slice (some ⟨g, 0, none⟩) (n + 1) cap) (ys ++ [y]) ∧ w.grownBy w' v.ownBlock) from fin)
  clear fin hbk hr hv
  obtain ⟨ao, cap, rfl, hc1, hc2⟩ := hform
  have hb0 : (0 : Int) ≤ (n : Int) := by omega
  by_cases hcn : cap = n
  · subst hcn
    cases ao with
    | none =>
      go_enter Tryz.func99, Tryz.ntmps99
      go_wp2_with (at_builtin; refine wpList_append_lies w rfl _ _ 24 rfl 0 43 i0 _ 4 48 Tryz.underlying24 hi0 hz0 hzs hzb rfl (by decide) _ cap rows.flatten rfl HO.out ⟨vb, 0, none⟩ 1 1 r rfl HRL.out HS.out h1r (by decide) (by unfold maxLen; omega) (by omega) (Nat.zero_le _) w.heap.size rfl ?_; intro g cap' w' hown' hgr hat hlt)
      go_ret
      obtain ⟨f1, f2⟩ := HFI.out g cap' w' hown' hgr (hat.imp_right fun e => Nat.le_of_eq e.symm)
      exact ⟨_, rfl, f1, f2⟩
    | some a =>
      go_enter Tryz.func99, Tryz.ntmps99
      go_wp2_with (at_builtin; refine wpList_append_lies w rfl _ _ 24 rfl 0 43 i0 _ 4 48 Tryz.underlying24 hi0 hz0 hzs hzb rfl (by decide) _ cap rows.flatten rfl HO.out ⟨vb, 0, none⟩ 1 1 r rfl HRL.out HS.out h1r (by decide) (by unfold maxLen; omega) (by omega) (Nat.zero_le _) w.heap.size rfl ?_; intro g cap' w' hown' hgr hat hlt)
      go_ret
      obtain ⟨f1, f2⟩ := HFI.out g cap' w' hown' hgr (hat.imp_right fun e => Nat.le_of_eq e.symm)
      exact ⟨_, rfl, f1, f2⟩
  · cases ao with
    | none =>
      exfalso
      rcases HO.out.2 with ⟨h, _⟩ | ⟨g, cap', cur, h, _⟩
      · injection h with _ h1 h2; omega
      · injection h with h; cases h
    | some a =>
      go_enter Tryz.func99, Tryz.ntmps99
      go_wp2_with (at_builtin; refine wpList_append_lies w rfl _ _ 24 rfl 0 43 i0 _ 4 48 Tryz.underlying24 hi0 hz0 hzs hzb rfl (by decide) _ n rows.flatten rfl HO.out ⟨vb, 0, none⟩ 1 1 r rfl HRL.out HS.out h1r (by decide) (by unfold maxLen; omega) (by omega) (Nat.zero_le _) w.heap.size rfl ?_; intro g cap' w' hown' hgr hat hlt)
      go_ret
      obtain ⟨f1, f2⟩ := HFI.out g cap' w' hown' hgr (hat.imp_right fun e => Nat.le_of_eq e.symm)
      exact ⟨_, rfl, f1, f2⟩

/-- slices.Insert. -/
theorem insertN_any (w : World) (v : Value) (B : Nat) (ys : List PEnt) (h : LB OSes 43 4 B w v ys) (hB : B ≤ w.heap.size) (hn : ys.length ≤ 64) (i : Nat) (hi : i ≤ ys.length) (vb : Nat) (r : List Value) (hv : Row w vb 43 r) (hvb : v.ownBlock ≠ some vb) (y : PEnt) (hr : OSes (fun b => B ≤ b ∧ v.ownBlock ≠ some b) w r y) :
    Calls Tryz.prog 99 #[v, .int .i64 (i : Int), .slice (some ⟨vb, 0, none⟩) 1 1] w fun e w' => ∃ v', e = .returned v' ∧ LB OSes 43 4 B w' v' (insL i y ys) ∧ w.grownBy w' v.ownBlock := by
  rcases Nat.lt_or_ge i ys.length with hil | hil
  rotate_left
  · obtain rfl : i = ys.length := by omega
    rw [insL, List.take_length, List.drop_length]
    exact insertN_end w v B ys h hB hn vb r hv y hr
  obtain ⟨rows, h0, hown, hfr, hall⟩ := h
  have hlen := hall.len
  have hrl : r.length = 4 := by obtain ⟨c, d, k, a, l, rfl, _⟩ := hr; rfl
  have h1r := one_RN hr.ses
  have h1 : ∀ u ∈ rows.flatten, u.oneCell' = true := by
    intro u hu
    obtain ⟨q, hq, huq⟩ := List.mem_flatten.1 hu
    obtain ⟨k, hk, rfl⟩ := List.getElem_of_mem hq
    exact one_RN (hall.get (List.getElem?_eq_getElem hk) (List.getElem?_eq_getElem (by omega))).ses u huq
  have hfl := flat_len h0
  have hfin : rows.flatten.take (i * 4) ++ (r ++ rows.flatten.drop (i * 4)) = (insL i r rows).flatten := by
    rw [flat_take h0 i (by omega), flat_drop h0 i (by omega), insL, List.flatten_append, List.flatten_cons]
  have hil2 : ∀ q ∈ insL i r rows, q.length = 4 := fun q hq => by
    rcases List.mem_append.1 hq with hq | hq
    · exact h0 q (List.mem_of_mem_take hq)
    · rcases List.mem_cons.1 hq with rfl | hq
      · exact hrl
      · exact h0 q (List.mem_of_mem_drop hq)
  have hlenI : (insL i r rows).length = ys.length + 1 := by rw [insL, List.length_append, List.length_cons, List.length_take, List.length_drop]; omega
  have hallI : ∀ (G' : Nat → Prop) (w' : World), w.heap.size ≤ w'.heap.size → Mv (fun b => B ≤ b ∧ v.ownBlock ≠ some b) G' w w' → All2 (OSes G' w') (insL i r rows) (insL i y ys) := fun G' w' hs hm =>
    All2.app ((hall.take i).mono fun q b hq => mov_oses _ _ _ _ _ _ hq hs hm) ⟨mov_oses _ _ _ _ _ _ hr hs hm, (hall.drop i).mono fun q b hq => mov_oses _ _ _ _ _ _ hq hs hm⟩
  rw [hlen] at hown hfl
  rcases hown.2 with ⟨_, h4⟩ | ⟨g, cap, cur, rfl, _, hg, hc1, hc2, hc3, hc4⟩
  · omega
  have hrow : Row w g 43 cur.toList := by unfold Row; simpa using hg
  have hvg : vb ≠ g := fun e => hvb (by simp [Value.ownBlock, e])
  have hgB : B ≤ g := hfr g rfl
  rcases Nat.lt_or_ge cap (ys.length + 1) with hroom | hroom
  · refine (insertN_grow w g cap ys.length i vb cur.toList rows.flatten r hrow (by simpa using hc3) hfl hc4 hil hc1 hroom hn h1 hv hrl h1r).mono ?_
    rintro e w' ⟨NC, rfl, n1, n2, hb, cur', k1, k2, k3⟩
    refine ⟨_, rfl, ⟨insL i r rows, hil2, ⟨flat_len hil2, .inr ⟨w.heap.size, NC, cur'.toArray, by rw [hlenI], Nat.zero_le _, k1, by omega, n2, by simpa using k2, by rw [hlenI, ← hfin]; simpa using k3⟩⟩, fr_at _ _ _ _ hB, hallI _ _ hb.size fun j hj hjl => ⟨hb.block j hjl, hj.1, fun e => ?_⟩⟩, grown_of_below hb _⟩
    simp [Value.ownBlock] at e
    omega
  · refine (insertN_room w g cap ys.length i vb cur.toList rows.flatten r hrow (by simpa using hc3) hfl hc4 hil hroom hc2 hn h1 hvg hv hrl h1r).mono ?_
    rintro e w' ⟨rfl, hb, cur', k1, k2, k3⟩
    refine ⟨_, rfl, ⟨insL i r rows, hil2, ⟨flat_len hil2, .inr ⟨g, cap, cur'.toArray, by rw [hlenI], Nat.zero_le _, k1, by omega, hc2, by simpa using k2, by rw [hlenI, ← hfin]; simpa using k3⟩⟩, fr_at _ _ _ _ hgB, hallI _ _ hb.size fun j hj hjl => ⟨hb.block j hjl (fun e => hj.2 e.symm), hj.1, hj.2⟩⟩, hb⟩
end Go.Proofs.YtejkkhlblnepeaaGreat
end
