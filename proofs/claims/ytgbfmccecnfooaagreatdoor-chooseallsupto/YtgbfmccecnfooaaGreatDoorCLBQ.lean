/- Right reports, plain: what choose.Right looks at. Written by mk20r.py. -/
import Derived.Test.YtgbfmccecnfooaaGreatDoorCLBJ
import Derived.Test.YtgbfmccecnfooaaGreatDoorCLAZ
import Derived.Test.YtgbfmccecnfooaaGreatDoorCLBK
import Derived.Test.YtgbfmccecnfooaaGreatDoorCLBI
import Derived.Test.YtgbfmccecnfooaaGreatDoorCLBP
import Derived.Test.YtgbfmccecnfooaaGreatDoorCLAN
set_option linter.unusedSimpArgs false
set_option linter.unusedVariables false
namespace Go.Proofs.YtgbfmccecnfooaaGreatDoor
section
open Go.RowKit Oct Sha
instance (x : PReq) : Decidable (mayL x) := by unfold mayL; infer_instance
def askedL (x : PReq) : Bool := decide (mayL x) && decide (x.2.2.2 = askS x)
theorem may_key {x : PReq} (h : mayL x) : 0 ≤ cliL x.1 ∧ cliL x.1 ≤ 127 := by
  have : cliL x.1 = 100 + x.1 := if_pos ⟨h.1, by have := h.2.1; omega⟩
  have := h.1
  have := h.2.1
  omega
theorem asked_ver {x : PReq} (h : mayL x) : verL (cliL x.1) x.2.2.2 (sL ⟨#[114, 101, 113, 117, 101, 115, 116]⟩) (askP x) = askedL x := by
  rw [askedL, decide_eq_true h, Bool.true_and, verL, if_pos (may_key h)]
  rfl
set_option maxRecDepth 10000 in
set_option maxHeartbeats 4000000 in
/-- vote.Asked. -/
theorem asked_any (w : World) (r : List Value) (x : PReq) (h : RReq Any w r x) (z1 : x.2.2.1.length ≤ 3000000) (hT : Tab w) :
    Calls Tryz.prog 91 #[.agg r.toArray] w fun e w' => e = .returned (.bool (askedL x)) ∧ Below w.heap.size w w' := by
  have hall := h
  obtain ⟨vo, vg, rfl, ho, hg⟩ := h
  obtain ⟨w0, hw0⟩ : ∃ w0, w0 = w.alloc (.cells #[.int .i64 x.1, .int .i64 x.2.1, vo, vg] 62) := ⟨_, rfl⟩
  have ra : Row w0 w.heap.size 62 [.int .i64 x.1, .int .i64 x.2.1, vo, vg] := by rw [hw0]; exact Row.new w 62 _
  have B0 : Below w.heap.size w w0 := by rw [hw0]; exact below_alloc _ _
  have hdw : Below w0.heap.size w0 w0.drew := ⟨rfl, rfl, rfl, Nat.le_refl _, fun _ _ => rfl⟩
  have HA := (show Hid (∀ u, Below w0.heap.size w0 u → RReq Any u [.int .i64 x.1, .int .i64 x.2.1, vo, vg] x) from fun u hu => mov_req _ _ _ _ _ _ hall (below_and B0 (Nat.le_refl _) hu).size (Mv.below (below_and B0 (Nat.le_refl _) hu)))
  have SK := (show Hid (∀ u, Below w0.heap.size w0 u → u.cell? ⟨w.heap.size, 0, none⟩ = some (.int .i64 x.1) ∧ u.cell? ⟨w.heap.size, 1, none⟩ = some (.int .i64 x.2.1) ∧ u.cell? ⟨w.heap.size, 2, none⟩ = some vo ∧ u.cell? ⟨w.heap.size, 3, none⟩ = some vg) from fun u hu => ⟨(ra.below hu).cell (j := 0) rfl, (ra.below hu).cell (j := 1) rfl, (ra.below hu).cell (j := 2) rfl, (ra.below hu).cell (j := 3) rfl⟩)
  obtain ⟨a0, a1, a2, a3⟩ := SK.out w0 (Below.refl _ _)
  have HR := (show Hid (∀ u : World, Calls Tryz.prog 125 #[.int .i64 x.1] u fun e w' => e = .returned (.int .i64 (cliL x.1)) ∧ w' = u) from fun u => client_any u x.1)
  have HT := (show Hid (tot (askP x) ≤ 4000000) from askP_tot z1)
  have hT0 := hT.below B0
  by_cases hm : mayL x
  · have hv := asked_ver hm
    have HM := (show Hid (∀ u, Below w0.heap.size w0 u → Calls Tryz.prog 124 #[.agg #[.int .i64 x.1, .int .i64 x.2.1, vo, vg]] u fun e w' => e = .returned (.bool true) ∧ Below u.heap.size u w') from fun u hu => by
      have := mayAsk_any u _ x (HA.out u hu)
      rwa [decide_eq_true hm] at this)
    go_enter Tryz.func91, Tryz.ntmps91
    go_upto_region 1 with fail
    rw [← hw0]
    clear hw0
    have gw := fun u hu => (hg.mv (Mv.below (below_and B0 (Nat.le_refl _) hu)) : RT Any u vg x.2.2.2)
    have HG := (show Hid (∀ u, Below w0.heap.size w0 u → Rd u vg x.2.2.2) from fun u hu => (gw u hu).1)
    have HV := (show Hid (verL (cliL x.1) x.2.2.2 (sL ⟨#[114, 101, 113, 117, 101, 115, 116]⟩) (askP x) = askedL x) from hv)
    clear gw hv hm
    go_wp2_with fail
    go_region_held3 (fun u => u.cell? ⟨w.heap.size, 0, none⟩ = some (.int .i64 x.1) ∧ u.cell? ⟨w.heap.size, 1, none⟩ = some (.int .i64 x.2.1) ∧ u.cell? ⟨w.heap.size, 2, none⟩ = some vo ∧ u.cell? ⟨w.heap.size, 3, none⟩ = some vg)
      (first | exact SK.out _ (by assumption) | go_keep)
      (first
        | (go_at_call 56; refine (verify_any w3 (cliL x.1) _ x.2.2.2 ⟨#[114, 101, 113, 117, 101, 115, 116]⟩ v3 _ (HG.out w3 hb3) r3 (by decide) HT.out (hT0.below hb3)).mono ?_; rintro e w4 ⟨rfl, hb4⟩; have hB4 : Below w0.heap.size w0 w4 := below_and hb3 (Nat.le_refl _) hb4)
        | (go_at_call 126; refine (askParts_any w2 _ x (HA.out w2 hb2)).mono ?_; rintro e w3 ⟨v3, rfl, r3, hb3'⟩; have hb3 : Below w0.heap.size w0 w3 := below_and hb2 (Nat.le_refl _) hb3')
        | (go_at_call 125; refine (HR.out _).mono ?_; rintro e w2 ⟨rfl, rfl⟩)
        | (go_at_call 124; refine (HM.out w0.drew hdw).mono ?_; rintro e w2 ⟨rfl, hb2'⟩; have hb2 : Below w0.heap.size w0 w2 := below_and hdw (Nat.le_refl _) hb2'))
    go_wp2_with fail
    go_ret
    exact ⟨by rw [← HV.out]; rfl, below_and B0 (Nat.le_refl _) hB4⟩
  · have HM := (show Hid (∀ u, Below w0.heap.size w0 u → Calls Tryz.prog 124 #[.agg #[.int .i64 x.1, .int .i64 x.2.1, vo, vg]] u fun e w' => e = .returned (.bool false) ∧ Below u.heap.size u w') from fun u hu => by
      have := mayAsk_any u _ x (HA.out u hu)
      rwa [decide_eq_false hm] at this)
    have HF := (show Hid (askedL x = false) by show _ = _; rw [askedL, decide_eq_false hm]; rfl)
    go_enter Tryz.func91, Tryz.ntmps91
    go_upto_region 1 with fail
    rw [← hw0]
    clear hw0 hm
    go_wp2_with fail
    first
      | (go_region_law
          (go_simp; go_at_call 124; refine (HM.out w0.drew hdw).mono ?_; rintro e w2 ⟨rfl, hb2'⟩; have hb2 : Below w0.heap.size w0 w2 := below_and hdw (Nat.le_refl _) hb2'))
      | fail
    all_goals (
      go_wp2_with fail
      go_ret
      exact ⟨by rw [HF.out]; rfl, below_and B0 (Nat.le_refl _) hb2⟩)
end
section
open Go.RowKit Oct Bal
/-- A report's message. -/
def mR (r : PRep) : PMsg := { kind := 8, bal := (0, 0), slot := 0, frm := 0, to := 0, idx := 0, cnt := 0, req := qz, oth := qz, data := [], sig := [], cert := [], votes := [], order := [], picks := [], reps := [r] }
def sR (l : Value) : SV := { o := .slice none 0 0, g := .slice none 0 0, o' := .slice none 0 0, g' := .slice none 0 0, d := .slice none 0 0, s := .slice none 0 0, c := .slice none 0 0, v := .slice none 0 0, n := .slice none 0 0, p := .slice none 0 0, l := l }
theorem sR_ok {w : World} {v : Value} {r : PRep} (h : RL RRep 8 Any w v [r]) : SOk Any w (mR r) (sR v) :=
  ⟨RT.nil _ _, RT.nil _ _, RT.nil _ _, RT.nil _ _, RT.nil _ _, RT.nil _ _, RL.nil _ _ _ _, RL.nil _ _ _ _, RL.nil _ _ _ _, RL.nil _ _ _ _, h⟩
/-- Does it show its stable slot? -/
def stabL (n : Int) (r : PRep) : Bool :=
  if r.2.2.1 = 0 then decide (r.2.2.2.1.length = 0) && decide (r.2.2.2.2.1.length = 0)
  else decide (4 ≤ r.2.2.1) && decide (r.2.2.1 ≤ 1000000) && decide (Int.tmod r.2.2.1 4 = 0) && decide (r.2.2.2.1.length = 32) && certL (rightV 10 0 0 r.2.2.1 r.2.2.2.1) n r.2.2.2.2.1
theorem stab_low {n : Int} {r : PRep} (h : stabL n r = true) : 0 ≤ r.2.2.1 ∧ r.2.2.1 ≤ 1000000 := by
  unfold stabL at h
  split at h
  · omega
  · simp only [Bool.and_eq_true, decide_eq_true_eq] at h
    omega
/-- Is a Prep shown? -/
def prepdL (b : PBal) (n : Int) (p : PPrep) : Bool :=
  decide (cmp2 p.2.1.1 p.2.1.2 b.1 b.2 < 0) && (decide (p.2.2.1 = qz) || askedL p.2.2.1) && certL (rightV 2 p.2.1.1 p.2.1.2 p.1 (body p.2.2.1)) n p.2.2.2
/-- Preps in the order of their slots, open above low, each shown. -/
def prepsW (b : PBal) (n low : Int) : Int → List PPrep → Bool
  | _, [] => true
  | last, p :: ps => decide (last < p.1) && decide (p.1 ≤ low + 16) && prepdL b n p && prepsW b n low p.1 ps
def rgtR (n : Int) (r : PRep) : Bool :=
  rgt n && decide (0 ≤ r.2.1) && decide (r.2.1 < n) && seaQ (mR r) r.2.1 && stabL n r && prepsW r.1 n r.2.2.1 r.2.2.1 r.2.2.2.2.2.1
/-- Sizes of the requests. -/
def okQ (r : PRep) : Prop := ∀ p ∈ r.2.2.2.2.2.1, tot [p.2.2.1.2.2.1, p.2.2.1.2.2.2] ≤ 2000000
theorem body_lenC {r : PReq} (hr : tot [r.2.2.1, r.2.2.2] ≤ 2000000) : (body r).length ≤ 3000000 := by
  unfold body
  rw [List.length_append, List.length_append, le8_len, le8_len]
  have h1 := enc_len r.2.2.1.length
  have h2 := enc_len r.2.2.2.length
  simp only [tot] at hr
  simp only [packL, List.length_append, List.length_nil]
  omega
theorem op_lenC {r : PReq} (hr : tot [r.2.2.1, r.2.2.2] ≤ 2000000) : r.2.2.1.length ≤ 3000000 := by
  simp only [tot] at hr
  omega
theorem isNo_eq (x : PReq) : decide (x = qz) = (decide (x.1 = 0) && decide (x.2.1 = 0) && decide (x.2.2.1.length = 0) && decide (x.2.2.2.length = 0)) := by
  obtain ⟨a, b, c, d⟩ := x
  rw [Bool.eq_iff_iff]
  simp only [Bool.and_eq_true, decide_eq_true_eq, qz, Prod.mk.injEq, List.length_eq_zero_iff]
  constructor
  · rintro ⟨h1, h2, h3, h4⟩; exact ⟨⟨⟨h1, h2⟩, h3⟩, h4⟩
  · rintro ⟨⟨⟨h1, h2⟩, h3⟩, h4⟩; exact ⟨h1, h2, h3, h4⟩
theorem Row.mid {w : World} {b : Nat} {t : TypeId} {xs : List Value} (h : Row w b t xs) (k : Nat) {ys : List Value} (e : (xs.drop k).take ys.length = ys) : w.rangeAt b k ys := fun j v hj => by
  refine h.cell ?_
  rw [← e, List.getElem?_take] at hj
  split at hj
  · rw [List.getElem?_drop] at hj
    exact hj
  · cases hj
end
end Go.Proofs.YtgbfmccecnfooaaGreatDoor
