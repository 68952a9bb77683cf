/- catenarylaw04.BallotClears: its walk. -/
import Derived.Test.YtcajelodbfpkfaaBAlive
namespace Go.Proofs.Ytcajelodbfpkfaa
open Go.RowKit Oct Bal

theorem plc_nod {l : List Int} (hn : l.Nodup) {p : Nat} {a : Int} (h : l[p]? = some a) : plc l a = p := by
  refine plc_hit h fun hm => ?_
  obtain ⟨i, hi⟩ := List.getElem?_of_mem hm
  have hip : i < p := by
    rcases Nat.lt_or_ge i p with h | h
    · exact h
    · rw [List.getElem?_eq_none (by rw [List.length_take]; omega)] at hi; cases hi
  rw [List.getElem?_take, if_pos hip] at hi
  have := (get_iff hn hi h).1 rfl
  omega
/-- The state behind k turns: the last k are silent. -/
structure Clr (O S : List Int) (N : Nat) (h0 : Int) (k : Nat) : Prop where
  ord : isO O N = true
  len : O.length = N
  hd : O[0]? = some h0
  tl : ∃ U T, O = U ++ T ∧ T.length = k ∧ ∀ x ∈ T, x ∈ S
theorem Clr.step {O S : List Int} {N : Nat} {h0 : Int} {k : Nat} (c : Clr O S N h0 k) (hS : (S.length : Int) ≤ fau N) (h0S : h0 ∉ S) (hk : k ≤ S.length) {p : Nat} {b : Int} (hb : O[p]? = some b) (hbS : b ∈ S) (hp : (p : Int) < quo N) :
    k + 1 ≤ S.length ∧ ∃ m a, p = m + 1 ∧ O[m]? = some a ∧ can O a b = true ∧ Clr (trn O a b) S N h0 (k + 1) := by
  obtain ⟨U, T, hU, hT, hTS⟩ := c.tl
  have hr := (isO_iff.1 c.ord).1
  have e1 := quo_yes hr
  have e2 := fau_three hr
  have hn := isO_nodup c.ord
  have hl : U.length + T.length = N := by rw [← c.len, hU]; simp
  have hk1 : k + 1 ≤ S.length := by
    have := silent_more hn hU hTS hb (by omega) hbS
    omega
  have hp1 : p ≠ 0 := by
    rintro rfl
    rw [c.hd] at hb
    exact h0S (Option.some.inj hb ▸ hbS)
  obtain ⟨m, rfl⟩ : ∃ m, p = m + 1 := ⟨p - 1, by omega⟩
  have hmlt : m + 1 < O.length := (List.getElem?_eq_some_iff.1 hb).1
  obtain ⟨a, ha⟩ : ∃ a, O[m]? = some a := ⟨_, List.getElem?_eq_getElem (by omega)⟩
  have pa := plc_nod hn ha
  have pb := plc_nod hn hb
  have ho : isO O O.length = true := by rw [c.len]; exact c.ord
  have hc : can O a b = true := can_iff.2 ⟨ho, by omega, by omega, by rw [c.len]; omega⟩
  obtain ⟨p', f, cc⟩ := can_get hc
  have hf := cc.qq
  rw [c.len] at hf
  obtain ⟨U', hU'⟩ := cc.tail hU (by omega)
  refine ⟨hk1, m, a, rfl, ha, hc, ?_, ?_, ?_, U', T ++ [b], hU', by simp [hT], fun x hx => ?_⟩
  · have := cc.trn_ord; rwa [c.len] at this
  · rw [cc.trn_len, c.len]
  · rw [cc.head, c.hd]
  · rcases List.mem_append.1 hx with h | h
    · exact hTS x h
    · rw [List.mem_singleton.1 h]; exact hbS

theorem num_step {m m' : Nat} {q N : Int} (hmm : m = m' + 1) (hmq : (m : Int) < q) (hqN : q < N) (hN : N ≤ 16) :
    ((m : Int) == q) = false ∧ (m : Int) - 1 = (m' : Int) ∧ IntKind.i64.wrap (m' : Int) = (m' : Int) ∧ wrap64 (m' : Int) = (m' : Int) ∧ (0 : Int) ≤ (m' : Int) ∧ (m' : Int) < N :=
  ⟨by rw [beq_eq_false_iff_ne]; omega, by omega, by rw [IntKind.wrap_i64]; omega, IntWalk.wrap64_in _ ⟨by omega, by omega⟩, by omega, by omega⟩
theorem meas_step {s k : Nat} (h : k ≤ s) : s + 1 - (intOf (.int .i64 ((k : Int) + 1))).toNat < s + 1 - (intOf (.int .i64 (k : Int))).toNat := by
  simp only [intOf]
  omega
set_option maxHeartbeats 1000000 in
theorem clears_any (w : World) (v : Value) (l : List Int) (u : Value) (S : List Int) (hrd : Rdi w v l) (hru : Rdi w u S) (hl : l.length ≤ 17592186044416) (hlS : S.length ≤ 17592186044416) : Calls Try.prog 8 #[v, u] w fun e w' => e = .returned (.bool true) ∧ Below w.heap.size w w' := by
  have le := Nat.le_refl w.heap.size
  obtain ⟨ao0, ca0, rfl, hca0⟩ := hrd.form
  obtain ⟨au0, cu0, rfl, hcu0⟩ := hru.form
  go_enter Try.func8, Try.ntmps8
  go_wp2_with fail
  refine (alive_any _).mono ?_
  rintro e w1 ⟨rfl, B1⟩
  have r1 := hrd.below B1
  have s1 := hru.below B1
  clear hrd hru
  have HO := (show Hid (∀ _ : Unit, _) from fun _ => order_any w1 _ l l.length r1)
  by_cases ho : isO l l.length = true
  · have hr := (isO_iff.1 ho).1
    have hn := rgt_le hr
    by_cases hf : fau l.length < (S.length : Int)
    · clear r1 s1
      go_wp2_with (first | (go_at_call 25; refine (HO.out ()).mono ?_; rintro e w1 ⟨rfl, rfl⟩; rw [ho]) | (go_at_call 12; refine (faults_any _ _).mono ?_; rintro e w1 ⟨rfl, rfl⟩))
      go_ret
      exact ⟨rfl, B1⟩
    · obtain ⟨x0, hx0⟩ : ∃ x, l[0]? = some x := ⟨_, List.getElem?_eq_getElem (by omega)⟩
      obtain ⟨vb, off, ca, hvv, hc1, hc2, hvb, hcell⟩ := r1.at (by omega)
      injection hvv with hva _ hvc
      subst hva hvc
      have hc0 := hcell 0 (by omega)
      rw [show l.getD 0 0 = x0 by simp [List.getD, hx0], Nat.add_zero] at hc0
      have HP := (show Hid (∀ _ : Unit, _) from fun _ => place_any w1 _ S x0 s1)
      have hl0 : (0 : Int) < (l.length : Int) := by omega
      have hl1 : 0 < l.length := by omega
      clear hcell
      by_cases hx : x0 ∈ S
      · have hpl : 0 ≤ plc S x0 := by
          have h1 := plc_lo S x0
          have h2 : plc S x0 ≠ -1 := fun e => plc_none.1 e hx
          omega
        clear r1 s1 hx hx0
        go_wp2_with (first | (go_at_call 25; refine (HO.out ()).mono ?_; rintro e w1 ⟨rfl, rfl⟩; rw [ho]) | (go_at_call 12; refine (faults_any _ _).mono ?_; rintro e w1 ⟨rfl, rfl⟩) | (go_at_call 27; refine (HP.out ()).mono ?_; rintro e w1 ⟨rfl, rfl⟩))
        go_ret
        exact ⟨rfl, B1⟩
      · have hpl : plc S x0 = -1 := plc_none.2 hx
        have HPL := (show Hid (plc S x0 = -1) from hpl)
        have d1 : decide (fau (l.length : Int) < (S.length : Int)) = false := decide_eq_false hf
        have HF := (show Hid ((S.length : Int) ≤ fau (l.length : Int) ∧ x0 ∉ S) from ⟨by omega, hx⟩)
        have HCL := (show Hid (Clr l S l.length x0 0) from ⟨ho, rfl, hx0, l, [], by simp, rfl, fun x hx => by cases hx⟩)
        have hS16 : S.length ≤ 5 := by have := (fau_five (n := (l.length : Int))).2; omega
        have hl16 : l.length ≤ 16 := by omega
        have hq1 := quo_yes hr
        have hq3 := fau_three hr
        have hq4 := fau_ge hr
        have hqN : quo (l.length : Int) < (l.length : Int) := by omega
        have hq0 : 1 ≤ quo (l.length : Int) := by omega
        clear hx hpl hx0 hr hq1 hq3 hq4 hf
        go_wp2_with (first | (go_at_call 25; refine (HO.out ()).mono ?_; rintro e w1 ⟨rfl, rfl⟩; rw [ho]) | (go_at_call 12; refine (faults_any _ _).mono ?_; rintro e w1 ⟨rfl, rfl⟩) | (go_at_call 27; refine (HP.out ()).mono ?_; rintro e w1 ⟨rfl, rfl⟩; rw [HPL.out]) | (at_builtin; refine app_icopy rfl _ _ rfl rfl _ l rfl r1 hl ?_; intro own w2 ho2 hf2 hb2; have B2 := below_and B1 le hb2; have s2 := s1.below hb2; have o2 := ho2.rdi))
        clear HO HP r1 hc0 B1 s1 ho2 hf2 hb2 HPL hvb
        go_loopw [6, 7] (fun o t wr => ∃ (k : Nat) (O : List Int), k ≤ S.length ∧ t = .int .i64 k ∧ Rdi wr o O ∧ Hid (Clr O S l.length x0 k) ∧ Rdi wr (.slice au0 S.length cu0) S ∧ Below w.heap.size w wr) (fun _ t _ => S.length + 1 - (intOf t).toNat)
        case atStart => exact ⟨0, l, Nat.zero_le _, rfl, o2, HCL, s2, B2⟩
        case round =>
          obtain ⟨k, O, hk, rfl, hro, hclr, hrs, hbel⟩ := hrel
          have hOl := hclr.out.len
          obtain ⟨ob, ooff, oc, rfl, hoc1, hoc2, hob, hocell⟩ := hro.at (by omega)
          have HOC := (show Hid (∀ j x, O[j]? = some x → wr.cell? ⟨ob, ooff + j, none⟩ = some (.int .i64 x)) from fun j x hj => by
            have h1 : j < O.length := (List.getElem?_eq_some_iff.1 hj).1
            have := hocell j h1
            rwa [show O.getD j 0 = x by simp [List.getD, hj]] at this)
          have HRO := (show Hid (Rdi wr (.slice (some ⟨ob, ooff, none⟩) l.length oc) O) from by rw [hOl] at hro; exact hro)
          have HPS := (show Hid (∀ r, _) from fun r => place_any wr _ S r hrs)
          rw [hOl] at hoc1 ⊢
          have HOL := (show Hid (O.length = l.length) from hOl)
          have i1 : (k : Int) ≤ (S.length : Int) := by omega
          clear hocell hro hOl
          go_wp2_with fail
          go_loop [8] (fun p => ∃ m : Nat, (m : Int) ≤ quo (l.length : Int) ∧ p = .int .i64 m) (fun p => (quo (l.length : Int)).toNat - (intOf p).toNat)
          case atStart => exact ⟨0, by omega, rfl⟩
          case round =>
            obtain ⟨m, hm, rfl⟩ := hrel
            by_cases hmq : (m : Int) < quo (l.length : Int)
            · obtain ⟨b, hb⟩ : ∃ b, O[m]? = some b := ⟨_, List.getElem?_eq_getElem (by have := HOL.out; omega)⟩
              have hcb := HOC.out m b hb
              have j0 : (0 : Int) ≤ (m : Int) := by omega
              have j1 : (m : Int) < (l.length : Int) := by omega
              by_cases hbS : b ∈ S
              · obtain ⟨hk1, m', a, hmm, ha, hcan, hclr'⟩ := hclr.out.step HF.out.1 HF.out.2 hk hb hbS hmq
                have hpl : ¬ (plc S b < 0) := by
                  have h1 := plc_lo S b
                  have h2 : plc S b ≠ -1 := fun e => plc_none.1 e hbS
                  omega
                have hca := HOC.out m' a ha
                obtain ⟨hne, hm1, hw1, hw2, j2, j3⟩ := num_step hmm hmq hqN hn.2
                have HE := (show Hid (shE O a b = 0) from shE_yes hcan)
                have HL := (show Hid (shL O a b = trn O a b) from shL_yes hcan)
                have HLN := (show Hid ((ic (trn O a b)).length = l.length) from by
                  show (ic (trn O a b)).length = l.length
                  rw [ic_len]; exact hclr'.len)
                have HCL' := (show Hid (Clr (trn O a b) S l.length x0 (k + 1)) from hclr')
                have SK := (show Hid (∀ u, Below wr.heap.size wr u → u.cell? ⟨ob, ooff + m', none⟩ = some (.int .i64 a) ∧ u.cell? ⟨ob, ooff + m, none⟩ = some (.int .i64 b)) from fun u hu => ⟨(hu.cell (p := ⟨ob, ooff + m', none⟩) hob).trans hca, (hu.cell (p := ⟨ob, ooff + m, none⟩) hob).trans hcb⟩)
                clear hb hbS hmm ha hcan hclr' hclr
                go_wp2_with (first | (go_at_call 14; refine (quorum_any _ _).mono ?_; rintro e wr ⟨rfl, rfl⟩) | (go_at_call 27; refine (HPS.out _).mono ?_; rintro e wr ⟨rfl, rfl⟩))
                have hdr : Below wr.heap.size wr wr.drew := ⟨rfl, rfl, rfl, Nat.le_refl _, fun _ _ => rfl⟩
                obtain ⟨q0, q1⟩ := SK.out wr (Below.refl _ _)
                go_region_held3 (fun u => u.cell? ⟨ob, ooff + m', none⟩ = some (.int .i64 a) ∧ u.cell? ⟨ob, ooff + m, none⟩ = some (.int .i64 b))
                  (first | exact SK.out _ (by assumption) | go_keep)
                  (first
                    | (go_at_call 29; refine (shift_any wr.drew _ O a b HRO.out).mono ?_; rintro e w5 ⟨s, rfl, hs5, hfs5, hb5'⟩; rw [HE.out]; rw [HL.out] at hs5; have hb5 : Below wr.heap.size wr w5 := ⟨hb5'.os, hb5'.tape, hb5'.output, hb5'.size, hb5'.block⟩; obtain ⟨as5, cs5, rfl, hcs5⟩ := hs5.form; rw [HLN.out] at hs5 ⊢; clear hb5' hfs5))
                have B5 := below_and hbel le hb5
                have r5 := hrs.below hb5
                have o5 := hs5.rdi
                clear q0 q1 hs5 hb5 SK
                go_wp2_with fail
                go_roundw
                case rel => exact ⟨k + 1, trn O a b, hk1, by go_num, o5, HCL', r5, B5⟩
                case measure => exact meas_step hk
              · have hpl : plc S b < 0 := by have := plc_none.2 hbS; omega
                clear hb hbS
                go_wp2_with (first | (go_at_call 14; refine (quorum_any _ _).mono ?_; rintro e wr ⟨rfl, rfl⟩) | (go_at_call 27; refine (HPS.out _).mono ?_; rintro e wr ⟨rfl, rfl⟩))
                go_round
                case rel => exact ⟨m + 1, by omega, by go_num⟩
                case measure => simp [intOf]; omega
            · have hne : ((m : Int) == quo (l.length : Int)) = true := by rw [beq_iff_eq]; omega
              go_wp2_with (go_at_call 14; refine (quorum_any _ _).mono ?_; rintro e wr ⟨rfl, rfl⟩)
              go_ret
              exact ⟨rfl, hbel⟩
  · rw [Bool.not_eq_true] at ho
    clear r1 s1
    go_wp2_with (go_at_call 25; refine (HO.out ()).mono ?_; rintro e w1 ⟨rfl, rfl⟩; rw [ho])
    go_ret
    exact ⟨rfl, B1⟩
end Go.Proofs.Ytcajelodbfpkfaa
