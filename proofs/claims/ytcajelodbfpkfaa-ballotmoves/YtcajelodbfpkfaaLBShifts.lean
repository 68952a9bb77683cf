/- catenarylaw04.BallotShifts: its walk. -/
import Derived.Test.YtcajelodbfpkfaaB12
namespace Go.Proofs.Ytcajelodbfpkfaa
open Go.RowKit Oct Bal

/-- The first k one greater. -/
def iL (k : Nat) (L : List Int) : List Int := (L.take k).map (· + 1) ++ L.drop k
theorem iL_zero (L : List Int) : iL 0 L = L := by simp [iL]
theorem iL_len (k : Nat) (L : List Int) : (iL k L).length = L.length := by simp [iL]; omega
theorem iL_get {k : Nat} {L : List Int} {x : Int} (sp : List Value) (h : L[k]? = some x) : (ic (iL k L) ++ sp)[k]? = some (.int .i64 x) := by
  have hlt : k < L.length := (List.getElem?_eq_some_iff.1 h).1
  rw [List.getElem?_append_left (by rw [ic_len, iL_len]; exact hlt)]
  simp only [ic, iL, List.getElem?_map]
  rw [List.getElem?_append_right (by simp; omega)]
  simp only [List.length_map, List.length_take, Nat.min_eq_left (Nat.le_of_lt hlt), Nat.sub_self, List.getElem?_drop, Nat.add_zero, h, Option.map_some]
theorem iL_set {k : Nat} {L : List Int} {x : Int} (sp : List Value) (h : L[k]? = some x) : (ic (iL k L) ++ sp).set k (.int .i64 (x + 1)) = ic (iL (k + 1) L) ++ sp := by
  have hlt : k < L.length := (List.getElem?_eq_some_iff.1 h).1
  rw [List.set_append_left _ _ (by rw [ic_len, iL_len]; exact hlt)]
  congr 1
  have hd : L.drop k = x :: L.drop (k + 1) := by
    rw [List.drop_eq_getElem_cons hlt]
    rw [List.getElem?_eq_getElem hlt] at h
    rw [Option.some.inj h]
  have ht : L.take (k + 1) = L.take k ++ [x] := take_snoc h
  have hl : ((L.take k).map (· + 1)).length = k := by rw [List.length_map, List.length_take]; omega
  unfold iL
  rw [ht, hd, ic_app, List.set_append_right _ _ (by rw [ic_len]; omega), ic_len, hl, Nat.sub_self]
  simp [ic]

theorem same_yes (w : World) (u v : Value) (l : List Int) (hu : Rdi w u l) (hv : Rdi w v l) : Calls Try.prog 23 #[u, v] w fun e w' => e = .returned (.bool true) ∧ Below w.heap.size w w' := by
  have := same_any w u v l l hu hv
  rwa [decide_eq_true rfl] at this
theorem Rdi.grown {w w' : World} {v : Value} {l : List Int} {g : Nat} (h : Rdi w v l) (hg : w.grownBy w' (some g)) (hr : l ≠ [] → ∀ k, v.ownBlock = some k → k < g) : Rdi w' v l :=
  Rdv.grown h hg fun hx k hk hv => by
    cases hk
    have := hr (fun e => hx (by rw [e]; rfl)) g hv
    omega
theorem rdi_row {w : World} {g cap : Nat} {e : TypeId} {l : List Int} {sp : List Value} (h : Row w g e (ic l ++ sp)) (hc : (ic l ++ sp).length = cap) (hm : cap ≤ maxLen) : Rdi w (.slice (some ⟨g, 0, none⟩) l.length cap) l := by
  have ho := own_row h l.length (by rw [List.length_append, ic_len]; omega) (by rw [hc]; exact hm)
  rw [hc, List.take_append_of_le_length (by rw [ic_len]; exact Nat.le_refl _), List.take_of_length_le (by rw [ic_len]; exact Nat.le_refl _)] at ho
  exact ho.rdi
/-- A row of the call's own, taken apart. -/
theorem own_open {w : World} {e : TypeId} {v : Value} {l : List Int} (h : Own w e v (ic l)) (hl : 0 < l.length) : ∃ g cap sp, v = .slice (some ⟨g, 0, none⟩) l.length cap ∧ Row w g e (ic l ++ sp) ∧ l.length ≤ cap ∧ cap ≤ maxLen ∧ (ic l ++ sp).length = cap := by
  rcases h.2 with ⟨_, h0⟩ | ⟨g, cap, cur, rfl, _, hg, n1, n2, n3, n4⟩
  · rw [ic_len] at h0; omega
  · refine ⟨g, cap, cur.toList.drop l.length, by rw [ic_len], ?_, by rw [ic_len] at n1; exact n1, n2, ?_⟩
    · have e1 : ic l ++ cur.toList.drop l.length = cur.toList := by
        rw [ic_len, Nat.mul_one] at n4
        rw [← n4, List.take_append_drop]
      rw [e1]
      exact hg
    · rw [ic_len, Nat.mul_one] at n4
      rw [← n4, List.take_append_drop, Array.length_toList, n3]
      omega
theorem trn_bd {o : List Int} {a b : Int} {p f : Nat} (c : Bal.Can o a b p f) {x : Int} {k : Nat} (h : (trn o a b)[k]? = some x) : 0 ≤ x ∧ x ≤ 15 := by
  have h1 := (isO_perm c.trn_ord).mem_iff.1 (List.mem_of_getElem? h)
  have h2 := mem_rng.1 h1
  have := c.len
  have := c.f5
  omega

set_option maxHeartbeats 1000000 in
theorem shifts_any (w : World) (v : Value) (l : List Int) (a b : Int) (hrd : Rdi w v l) (hl : l.length ≤ 17592186044416) : Calls Try.prog 6 #[v, .int .i64 a, .int .i64 b] w fun e w' => e = .returned (.bool true) ∧ Below w.heap.size w w' := by
  have le := Nat.le_refl w.heap.size
  have hltv : l ≠ [] → ∀ k, v.ownBlock = some k → k < w.heap.size := fun h => Rdv.lt hrd (fun e => h (by simpa [ic] using e))
  go_enter Try.func6, Try.ntmps6
  go_wp2_with fail
  refine (alive_any _).mono ?_
  rintro e w1 ⟨rfl, B1⟩
  have r1 := hrd.below B1
  clear hrd
  go_wp2_with (at_builtin; refine app_icopy rfl _ _ rfl rfl v l rfl r1 hl ?_; intro own w2 ho2 hf2 hb2; have B2 := below_and B1 le hb2; have r2 := r1.below hb2; have o2 := ho2.rdi; have hlt2 := ho2.lt; have W2 := B2.size; clear ho2 hf2 hb2 r1 B1)
  refine (shift_any w2 own l a b o2).mono ?_
  rintro e w3 ⟨s, rfl, hs3, hfs, hb3⟩
  have B3 := below_and B2 le hb3
  have r3 := r2.below hb3
  have o3 := o2.below hb3
  have s2 := hb3.size
  go_wp2_with fail
  refine (refShift_any w3 v l a b r3).mono ?_
  rintro e w4 ⟨t, rfl, ht4, hft, hb4⟩
  have B4 := below_and B3 le hb4
  have r4 := r3.below hb4
  have o4 := o3.below hb4
  have s4 := hs3.below hb4
  have z4 := hb4.size
  have s3lt := hs3.lt
  clear hb3 hb4 B3 r3 o3 hs3 B2 r2 o2
  have hee : (shE l a b == shE l a b) = true := by simp
  by_cases hc : can l a b = true
  · rw [shL_yes hc] at s4 ht4
    obtain ⟨p, f, c⟩ := can_get hc
    have hN := c.trn_len
    have hlen := c.len
    have hf1 := c.f1
    have hf5 := c.f5
    have HB := (show Hid (∀ (k : Nat) (x : Int), (trn l a b)[k]? = some x → 0 ≤ x ∧ x ≤ 15) from fun k x h => trn_bd c h)
    have hne0 : l ≠ [] := fun e => by rw [e] at hlen; simp at hlen
    obtain ⟨g1, cap1, sp1, rfl, hr1, hc1, hm1, hl1⟩ := own_open s4 (by omega)
    obtain ⟨g2, cap2, sp2, rfl, hr2, hc2, hm2, hl2⟩ := own_open ht4 (by omega)
    have g1a : w2.heap.size ≤ g1 := hfs g1 rfl
    have g1b : g1 < w3.heap.size := s3lt g1 rfl
    have g2a : w3.heap.size ≤ g2 := hft g2 rfl
    have hw2 : w.heap.size ≤ w2.heap.size := W2
    have hv1 : l ≠ [] → ∀ k, v.ownBlock = some k → k < g1 := fun h k hk => by have := hltv h k hk; omega
    have ho1 : l ≠ [] → ∀ k, own.ownBlock = some k → k < g1 := fun _ k hk => by have := hlt2 k hk; omega
    have HL := (show Hid ((ic (trn l a b) ++ sp1).length = cap1 ∧ (ic (trn l a b) ++ sp2).length = cap2) from ⟨hl1, hl2⟩)
    have HLN := (show Hid ((trn l a b).length = l.length) from hN)
    have HV := (show Hid ((∀ k, v.ownBlock = some k → k < g1) ∧ (∀ k, own.ownBlock = some k → k < g1)) from ⟨hv1 hne0, ho1 hne0⟩)
    have hll : l.length ≤ 16 := by omega
    rw [hN] at hc1 hc2 ⊢
    rw [← iL_zero (trn l a b)] at hr1 hr2
    clear hc s4 ht4 c hN hlen hf1 hf5 hl1 hl2 hne0 hltv hlt2 hfs hft s3lt hv1 ho1
    generalize trn l a b = L at *
    generalize l.length = N at *
    go_wp2_with fail
    go_loopw [35] (fun i wr => ∃ k : Nat, k ≤ N ∧ i = .int .i64 k ∧ Hid (Row wr g1 3 (ic (iL k L) ++ sp1)) ∧ w4.grownBy wr (some g1)) (fun i _ => N - (intOf i).toNat)
    case atStart => exact ⟨0, Nat.zero_le _, rfl, hr1, grown_refl _ _⟩
    case round =>
      obtain ⟨k, hk, rfl, hrow, hgw⟩ := hrel
      by_cases hkN : k < N
      · have i1 : (k : Int) < (N : Int) := by omega
        obtain ⟨x, hx⟩ : ∃ x, L[k]? = some x := ⟨_, List.getElem?_eq_getElem (by have := HLN.out; omega)⟩
        have hxb := HB.out k x hx
        have hcx : wr.cell? ⟨g1, k, none⟩ = some (.int .i64 x) := hrow.out.cell (iL_get sp1 hx)
        have HS := (show Hid _ from iL_set sp1 hx)
        have hkl : k < (ic (iL k L) ++ sp1).length := by rw [List.length_append, ic_len, iL_len, HLN.out]; omega
        clear hx
        go_wp2_with (refine wl_set rfl 3 _ _ rfl g1 k (.int .i64 (x + 1)) (by first | rfl | (simp [Act.eval]; done)) (by first | rfl | (simp [Act.eval]; done)) 3 (ic (iL k L) ++ sp1) hrow.out hkl Try.sizI rfl ?_; intro w5 hrow5 hg5)
        rw [HS.out] at hrow5
        have hg6 := grown_trans hgw hg5 (.inl rfl)
        clear hg5 hkl hcx
        go_wp2_with fail
        go_roundw
        case rel => exact ⟨k + 1, by omega, by go_num, hrow5, hg6⟩
        case measure => simp [intOf]; omega
      · have i1 : ¬ (k : Int) < (N : Int) := by omega
        have hkk : k = N := by omega
        rw [hkk] at hrow
        clear hkk
        have B5 : Below w.heap.size w wr := below_setR B4 le hgw (by omega)
        have r5 : Rdi wr v l := r4.grown hgw (fun _ => HV.out.1)
        have o5 : Rdi wr own l := o4.grown hgw (fun _ => HV.out.2)
        have q5 : Row wr g2 3 (ic (iL 0 L) ++ sp2) := hr2.grown hgw (fun e => by cases e; omega)
        have z5 := hgw.size
        clear hgw hr2 r4 o4 B4 hr1
        go_wp2_with fail
        go_loopw [47] (fun i wu => ∃ m : Nat, m ≤ N ∧ i = .int .i64 m ∧ Hid (Row wu g2 3 (ic (iL m L) ++ sp2)) ∧ wr.grownBy wu (some g2)) (fun i _ => N - (intOf i).toNat)
        case atStart => exact ⟨0, Nat.zero_le _, rfl, q5, grown_refl _ _⟩
        case round =>
          obtain ⟨m, hm, rfl, hrow2, hgw⟩ := hrel
          by_cases hmN : m < N
          · have i2 : (m : Int) < (N : Int) := by omega
            obtain ⟨x, hx⟩ : ∃ x, L[m]? = some x := ⟨_, List.getElem?_eq_getElem (by have := HLN.out; omega)⟩
            have hxb := HB.out m x hx
            have hcx : wr.cell? ⟨g2, m, none⟩ = some (.int .i64 x) := hrow2.out.cell (iL_get sp2 hx)
            have HS := (show Hid _ from iL_set sp2 hx)
            have hkl : m < (ic (iL m L) ++ sp2).length := by rw [List.length_append, ic_len, iL_len, HLN.out]; omega
            clear hx
            go_wp2_with (refine wl_set rfl 3 _ _ rfl g2 m (.int .i64 (x + 1)) (by first | rfl | (simp [Act.eval]; done)) (by first | rfl | (simp [Act.eval]; done)) 3 (ic (iL m L) ++ sp2) hrow2.out hkl Try.sizI rfl ?_; intro w5 hrow5 hg5)
            rw [HS.out] at hrow5
            have hg6 := grown_trans hgw hg5 (.inl rfl)
            clear hg5 hkl hcx
            go_wp2_with fail
            go_roundw
            case rel => exact ⟨m + 1, by omega, by go_num, hrow5, hg6⟩
            case measure => simp [intOf]; omega
          · have i2 : ¬ (m : Int) < (N : Int) := by omega
            have hmm : m = N := by omega
            rw [hmm] at hrow2
            clear hmm
            have B6 : Below w.heap.size w wr := below_setR B5 le hgw (by omega)
            have r6 : Rdi wr v l := r5.grown hgw (fun _ k hk => by have := HV.out.1 k hk; omega)
            have o6 : Rdi wr own l := o5.grown hgw (fun _ k hk => by have := HV.out.2 k hk; omega)
            have q6 := hrow.out.grown hgw (fun e => by cases e; omega)
            have hlN : (iL N L).length = N := by rw [iL_len, HLN.out]
            have s6 := rdi_row q6 (by rw [List.length_append, ic_len, iL_len, ← ic_len, ← List.length_append]; exact HL.out.1) hm1
            have t6 := rdi_row hrow2.out (by rw [List.length_append, ic_len, iL_len, ← ic_len, ← List.length_append]; exact HL.out.2) hm2
            rw [hlN] at s6 t6
            have HE := (show Hid (∀ _ : Unit, _) from fun _ => same_yes wr _ _ _ s6 t6)
            have HF := (show Hid (∀ (u : World) (_ : Below wr.heap.size wr u), _) from fun u hu => same_yes u own v _ (o6.below hu) (r6.below hu))
            clear hgw q6 s6 t6 hlN r5 o5 B5 q5 hrow hrow2
            go_wp2_with fail
            refine (HE.out ()).mono ?_
            rintro e w7 ⟨rfl, hb7⟩
            go_wp2_with fail
            refine (HF.out w7 hb7).mono ?_
            rintro e w8 ⟨rfl, hb8⟩
            go_wp2_with fail
            go_ret
            exact ⟨rfl, below_and (below_and B6 le hb7) le hb8⟩
  · rw [shL_no hc] at s4 ht4
    have HE := (show Hid (∀ _ : Unit, _) from fun _ => same_yes w4 s t _ s4.rdi ht4.rdi)
    have HF := (show Hid (∀ (u : World) (_ : Below w4.heap.size w4 u), _) from fun u hu => same_yes u own v _ (o4.below hu) (r4.below hu))
    obtain ⟨ao, ca, rfl, _⟩ := s4.form
    obtain ⟨ao', ca', rfl, _⟩ := ht4.form
    clear hc
    rw [ic_len] at *
    go_wp2_with fail
    refine wp_loop_rounds 1 ?_; rw [rounds_succ]
    go_wp2_with fail
    refine wp_loop_rounds 1 ?_; rw [rounds_succ]
    go_wp2_with fail
    refine (HE.out ()).mono ?_
    rintro e w5 ⟨rfl, hb5⟩
    go_wp2_with fail
    refine (HF.out w5 hb5).mono ?_
    rintro e w6 ⟨rfl, hb6⟩
    go_wp2_with fail
    go_ret
    exact ⟨rfl, below_and (below_and B4 le hb5) le hb6⟩
end Go.Proofs.Ytcajelodbfpkfaa
