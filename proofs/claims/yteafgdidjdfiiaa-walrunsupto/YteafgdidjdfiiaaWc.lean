/- Logs in memory: wal.Open, Add, Compact. -/
import Derived.Test.YteafgdidjdfiiaaWb
import Derived.Test.YteafgdidjdfiiaaDa
import Derived.Deep.RegionHeld3
set_option linter.unusedVariables false
set_option linter.unusedSimpArgs false
namespace Go.Proofs.Yteafgdidjdfiiaa
open Go.RowKit Oct

/-- What opening makes of a disk, and its error. -/
def opT (d : PDk) : PDk × Int := if d.dead = true then (d, 115) else if (scn d.l).2 < d.l.length then reD d (d.l.take (scn d.l).2) else (d, 0)
/-- The records that it finds. -/
def opL (d : PDk) : List (List Int) := if (opT d).2 = 0 then (scn d.l).1 else []
theorem OkD.op {d : PDk} (h : OkD d) : OkD (opT d).1 := by
  unfold opT
  split
  · exact h
  split
  · exact h.re (h.byt.take _)
  · exact h
def lgc (b : Nat) : List Value := [.pointer (some ⟨b, 0, none⟩)]
theorem frm_byt {t : List Int} (h : Byt t) (hl : t.length ≤ 140737488355300) : Byt (frm t) := (enc_byt _ (by omega) (by omega)).app h
theorem frm_len (t : List Int) : (frm t).length ≤ t.length + 10 := by have := enc_len (t.length : Int); unfold frm; rw [List.length_append]; omega

theorem Gr2.lg {w w' : World} {g b b' : Nat} {v : Value} {d : PDk} (h : Gr2 w w' b v) (hd : Dsk w b v d) (hg : Row w g 72 (lgc b')) : Row w' g 72 (lgc b') :=
  h.row hg (Ne.symm (hd.row.apart hg (by decide))) (own_row_nD hg hd.own (by decide))

set_option maxRecDepth 10000 in
set_option maxHeartbeats 1000000 in
theorem addW_any (w : World) (g b : Nat) (v u : Value) (d : PDk) (x : List Int) (hg : Row w g 72 (lgc b)) (h : Dsk w b v d) (hu : Rd w u x) (hl : x.length ≤ 140737488355300) :
    Calls Try.prog 17 #[.pointer (some ⟨g, 0, none⟩), u] w fun e w' => ∃ v', e = .returned (.int .i64 (apD d (frm x)).2) ∧ Dsk w' b v' (apD d (frm x)).1 ∧ Gr2 w w' b v ∧ Spt w v v' := by
  have hdw : Below w.heap.size w w.drew := ⟨rfl, rfl, rfl, Nat.le_refl _, fun _ _ => rfl⟩
  have HB := (show Hid (∀ u', Below w.heap.size w u' → Calls Try.prog 38 #[u] u' fun e w' => ∃ v', e = .returned v' ∧ Own w' 5 v' (bc (frm x)) ∧ Fr w.heap.size v' ∧ Below w.heap.size w w') from fun u' hb => by
    refine (bytes_any u' u x (hu.below hb) hl).mono ?_
    rintro e w' ⟨v', e1, e2, e3, e4⟩
    exact ⟨v', e1, e2, e3.mono hb.size, below_and hb (Nat.le_refl _) e4⟩)
  have HA := (show Hid (∀ u' o, Below w.heap.size w u' → Own u' 5 o (bc (frm x)) → Fr w.heap.size o → Calls Try.prog 12 #[.pointer (some ⟨b, 0, none⟩), o] u' fun e w' => ∃ v', e = .returned (.int .i64 (apD d (frm x)).2) ∧ Dsk w' b v' (apD d (frm x)).1 ∧ Gr2 w w' b v ∧ Spt w v v') from fun u' o hb ho hf => by
    have hd := h.below hb
    refine (appendD_any u' b v o d (frm x) hd (ho.rd (frm_byt hu.1 hl)) (fun _ => hd.nu ho) (fun _ k hk e => by have := hf k e; have := h.own.lt k hk; omega) (by have := frm_len x; omega)).mono ?_
    rintro e w' ⟨v', e1, e2, e3, e4⟩
    exact ⟨v', e1, e2, (Gr2.bel hb).trans (.inl rfl) e3, e4.imp id (fun h => h.mono hb.size)⟩)
  have SK := (show Hid (∀ u', Below w.heap.size w u' → u'.cell? ⟨g, 0, none⟩ = some (.pointer (some ⟨b, 0, none⟩))) from fun u' hb => (hg.below hb).cell (j := 0) rfl)
  have s0 := SK.out w (Below.refl _ _)
  have HK := (show Hid (∀ u', Gr2 w u' b v → u'.cell? ⟨g, 0, none⟩ = some (.pointer (some ⟨b, 0, none⟩))) from fun u' hG => (hG.lg h hg).cell (j := 0) rfl)
  obtain ⟨E, hE⟩ : ∃ E, E = (apD d (frm x)).2 := ⟨_, rfl⟩
  rw [← hE] at HA ⊢
  clear hE hg h hu
  go_enter Try.func17, Try.ntmps17
  go_wp2_with fail
  go_region_held3 (fun u' => u'.cell? ⟨g, 0, none⟩ = some (.pointer (some ⟨b, 0, none⟩)))
    (first | (with_reducible exact HK.out w2 hg2) | (with_reducible exact SK.out w1 hB1) | (with_reducible exact SK.out w (Below.refl _ _)) | (with_reducible exact SK.out w.drew hdw) | go_keep)
    (first
      | (go_at_call 12; refine (HA.out _ o1 (by first | (with_reducible exact hB1) | (with_reducible exact hB1.drew)) (by first | (with_reducible exact ho1) | (with_reducible exact ho1.drew)) hf1).mono ?_; rintro e w2 ⟨v2, rfl, hd2, hg2, hs2⟩)
      | (go_at_call 38; refine (HB.out _ (by first | (with_reducible exact Below.refl _ _) | (with_reducible exact hdw))).mono ?_; rintro e w1 ⟨o1, rfl, ho1, hf1, hB1⟩))
  all_goals (
    go_wp2_with fail
    go_ret
    exact ⟨_, rfl, hd2, hg2, hs2⟩)

set_option maxRecDepth 10000 in
set_option maxHeartbeats 1000000 in
theorem compactW_any (w : World) (g b : Nat) (v u : Value) (d : PDk) (ll : List (List Int)) (hg : Row w g 72 (lgc b)) (h : Dsk w b v d) (hu : Rdl w u ll) (hl : tot ll ≤ 10000000) :
    Calls Try.prog 19 #[.pointer (some ⟨g, 0, none⟩), u] w fun e w' => ∃ v', e = .returned (.int .i64 (reD d (packL ll)).2) ∧ Dsk w' b v' (reD d (packL ll)).1 ∧ Gr2 w w' b v ∧ Spt w v v' := by
  have hdw : Below w.heap.size w w.drew := ⟨rfl, rfl, rfl, Nat.le_refl _, fun _ _ => rfl⟩
  have HB := (show Hid (∀ u', Below w.heap.size w u' → Calls Try.prog 40 #[u] u' fun e w' => ∃ v', e = .returned v' ∧ Own w' 5 v' (bc (packL ll)) ∧ Fr w.heap.size v' ∧ Below w.heap.size w w') from fun u' hb => by
    refine (pack_any u' u ll (hu.below hb) hl).mono ?_
    rintro e w' ⟨v', e1, e2, e3, e4⟩
    exact ⟨v', e1, e2, e3.mono hb.size, below_and hb (Nat.le_refl _) e4⟩)
  have HA := (show Hid (∀ u' o, Below w.heap.size w u' → Own u' 5 o (bc (packL ll)) → Fr w.heap.size o → Calls Try.prog 37 #[.pointer (some ⟨b, 0, none⟩), o] u' fun e w' => ∃ v', e = .returned (.int .i64 (reD d (packL ll)).2) ∧ Dsk w' b v' (reD d (packL ll)).1 ∧ Gr2 w w' b v ∧ Spt w v v') from fun u' o hb ho hf => by
    have hd := h.below hb
    refine (replaceD_any u' b v o d (packL ll) hd (ho.rd (packL_byt hu.byts (by omega))) (fun _ => hd.nu ho) (by have := packL_len ll; omega)).mono ?_
    rintro e w' ⟨v', e1, e2, e3, e4⟩
    exact ⟨v', e1, e2, (Gr2.bel hb).trans (.inl rfl) e3, e4.imp id (fun h => h.mono hb.size)⟩)
  have SK := (show Hid (∀ u', Below w.heap.size w u' → u'.cell? ⟨g, 0, none⟩ = some (.pointer (some ⟨b, 0, none⟩))) from fun u' hb => (hg.below hb).cell (j := 0) rfl)
  have s0 := SK.out w (Below.refl _ _)
  have HK := (show Hid (∀ u', Gr2 w u' b v → u'.cell? ⟨g, 0, none⟩ = some (.pointer (some ⟨b, 0, none⟩))) from fun u' hG => (hG.lg h hg).cell (j := 0) rfl)
  obtain ⟨E, hE⟩ : ∃ E, E = (reD d (packL ll)).2 := ⟨_, rfl⟩
  rw [← hE] at HA ⊢
  clear hE hg h hu
  go_enter Try.func19, Try.ntmps19
  go_wp2_with fail
  go_region_held3 (fun u' => u'.cell? ⟨g, 0, none⟩ = some (.pointer (some ⟨b, 0, none⟩)))
    (first | (with_reducible exact HK.out w2 hg2) | (with_reducible exact SK.out w1 hB1) | (with_reducible exact SK.out w (Below.refl _ _)) | (with_reducible exact SK.out w.drew hdw) | go_keep)
    (first
      | (go_at_call 37; refine (HA.out _ o1 (by first | (with_reducible exact hB1) | (with_reducible exact hB1.drew)) (by first | (with_reducible exact ho1) | (with_reducible exact ho1.drew)) hf1).mono ?_; rintro e w2 ⟨v2, rfl, hd2, hg2, hs2⟩)
      | (go_at_call 40; refine (HB.out _ (by first | (with_reducible exact Below.refl _ _) | (with_reducible exact hdw))).mono ?_; rintro e w1 ⟨o1, rfl, ho1, hf1, hB1⟩))
  all_goals (
    go_wp2_with fail
    go_ret
    exact ⟨_, rfl, hd2, hg2, hs2⟩)

theorem Els.gr2 {w w' : World} {b : Nat} {v : Value} {t : List Value} (hr : Gr2 w w' b v) (hrow : Row w b 67 t) : ∀ {us : List Value} {L : List (List Int)}, Els w us L → (∀ c ∈ us, ∀ k, v.ownBlock = some k → c.ownBlock ≠ some k) → Els w' us L
  | [], [], _, _ => trivial
  | c :: us, l :: L, h, ha => ⟨hr.own h.1 (own_row_nD hrow h.1 (by decide)) (ha c (by simp)), Els.gr2 hr hrow h.2 (fun x hx => ha x (by simp [hx]))⟩
  | [], _ :: _, h, _ => h.elim
  | _ :: _, [], h, _ => h.elim

/-- What opening comes to. -/
def OpP (w : World) (b : Nat) (v : Value) (T : PDk × Int) (L : List (List Int)) (e : Ending) (w' : World) : Prop := ∃ v' m o us, e = .returned (.tuple #[.pointer m, o, .int .i64 T.2]) ∧ Dsk w' b v' T.1 ∧ Gr2 w w' b v ∧ Spt w v v' ∧
      (T.2 = 0 → ∃ g, m = some ⟨g, 0, none⟩ ∧ w.heap.size ≤ g ∧ Row w' g 72 (lgc b)) ∧ (T.2 ≠ 0 → m = none) ∧ Own w' 22 o us ∧ Els w' us L ∧ Fr w.heap.size o ∧ ∀ c ∈ us, Fr w.heap.size c

set_option maxRecDepth 10000 in
set_option maxHeartbeats 1000000 in
theorem openW_any (w : World) (b : Nat) (v : Value) (d : PDk) (h : Dsk w b v d) :
    Calls Try.prog 15 #[.pointer (some ⟨b, 0, none⟩)] w (OpP w b v (opT d) (opL d)) := by
  have hal := below_alloc w (.cells (lgc b).toArray 72)
  have hrow := Row.new w 72 (lgc b)
  obtain ⟨w1, hw1⟩ : ∃ w1, w1 = w.alloc (.cells (lgc b).toArray 72) := ⟨_, rfl⟩
  rw [← hw1] at hal hrow
  have h1 := h.below hal
  have c0 := hrow.cell (j := 0) rfl
  have hde := dead_any w1 b v d h1
  unfold opL opT
  cases hd : d.dead with
  | true =>
    rw [hd] at hde
    have HD := (show Hid (∀ _ : Unit, _) from fun _ => hde)
    rw [if_pos rfl, if_neg (show ¬ ((115 : Int) = 0) by decide)]
    clear hde
    go_enter Try.func15, Try.ntmps15
    go_upto_region 2 with fail
    have hw1' : w.alloc (.cells #[.pointer (some ⟨b, 0, none⟩)] 72) = w1 := hw1.symm
    rw [hw1']
    clear hw1 hw1'
    go_wp2_with (go_at_call 36; refine (HD.out ()).mono ?_; rintro e w1 ⟨rfl, rfl⟩)
    go_ret3
    exact ⟨v, none, _, [], rfl, h1, Gr2.bel hal, .inl rfl, fun e => (by cases e), fun _ => rfl, Own.nil _ _, trivial, Fr.nil _, fun c hc => by cases hc⟩
  | false =>
    rw [hd] at hde
    have HD := (show Hid (∀ _ : Unit, _) from fun _ => hde)
    have HBy := (show Hid (∀ _ : Unit, _) from fun _ => bytesD_any w1 b v d h1)
    have hlen := h.ok.len
    have HSc := (show Hid (∀ u o, Own u 5 o (bc d.l) → Calls Try.prog 8 #[o] u fun e w' => ∃ v' us, e = .returned (.tuple #[v', .int .i64 ((scn d.l).2 : Int)]) ∧ Own w' 22 v' us ∧ Els w' us (scn d.l).1 ∧ Fr u.heap.size v' ∧ Below u.heap.size u w' ∧ ∀ c ∈ us, Fr u.heap.size c) from fun u o ho => scan_any u o d.l (ho.rd h.ok.byt) (by omega))
    obtain ⟨N, hN⟩ : ∃ N, N = d.l.length := ⟨_, rfl⟩
    obtain ⟨S, hS⟩ : ∃ S, S = (scn d.l).2 := ⟨_, rfl⟩
    obtain ⟨L, hL⟩ : ∃ L, L = (scn d.l).1 := ⟨_, rfl⟩
    rw [← hS, ← hL] at HSc
    rw [if_neg (by simp), ← hS, ← hN, ← hL]
    have hNb : (N : Int) ≤ 4194304 := by omega
    have hsz := hal.size
    have HF := (show Hid (∀ (u : World) (o : Value), Own u 5 o (bc d.l) → ∃ ao c, o = .slice ao N c ∧ N ≤ c) from fun u o ho => by
      obtain ⟨ao, c, e, h1, h2, _⟩ := (ho.rd h.ok.byt).2
      rw [bc_len, ← hN] at e h1
      exact ⟨ao, c, e, h1⟩)
    clear hde hlen
    by_cases hsn : S < N
    · rw [if_pos hsn]
      have hSi : (S : Int) < (N : Int) := by omega
      have hNl := Nat.le_of_eq hN
      have HR := (show Hid (∀ u o c, Below w1.heap.size w1 u → Own u 5 (.slice o N c) (bc d.l) → Fr w1.heap.size (.slice o N c) → Calls Try.prog 37 #[.pointer (some ⟨b, 0, none⟩), .slice o S c] u fun e w' => ∃ v', e = .returned (.int .i64 (reD d (d.l.take S)).2) ∧ Dsk w' b v' (reD d (d.l.take S)).1 ∧ Gr2 u w' b v ∧ Spt w v v') from fun u o c hu ho hf => by
        obtain ⟨ar, cr, har, hcr, hcr2, hfront⟩ := (ho.rd h.ok.byt).front S (by omega)
        injection har with ha1 ha2 ha3
        subst ha1 ha3
        have hdu := h1.below hu
        refine (replaceD_any u b v (.slice o S c) d (d.l.take S) hdu hfront (fun _ e => by rw [ownB_len o S c N c] at e; exact hdu.nu ho e) (by rw [List.length_take]; omega)).mono ?_
        rintro e w' ⟨v', e1, e2, e3, e4⟩
        exact ⟨v', e1, e2, e3, e4.imp id (fun h => h.mono (Nat.le_trans hsz hu.size))⟩)
      have SK := (show Hid (∀ u, Below w1.heap.size w1 u → u.cell? ⟨w.heap.size, 0, none⟩ = some (.pointer (some ⟨b, 0, none⟩))) from fun u hu => (hrow.below hu).cell (j := 0) rfl)
      have HK := (show Hid (∀ u u', Below w1.heap.size w1 u → Gr2 u u' b v → Row u' w.heap.size 72 (lgc b)) from fun u u' hu hG => hG.lg (h1.below hu) (hrow.below hu))
      have HG := (show Hid (∀ u u', Below w1.heap.size w1 u → Gr2 u u' b v → Gr2 w u' b v) from fun u u' hu hG => (Gr2.bel (below_and hal (Nat.le_refl _) hu)).trans (.inl rfl) hG)
      have HE := (show Hid (∀ u u' o us, Below w1.heap.size w1 u → Gr2 u u' b v → Own u 22 o us → Own u' 22 o us) from fun u u' o us hu hG ho => hG.own ho (own_row_nD (h1.below hu).row ho (by decide)) (fun k hk => (h1.below hu).own.apart ho (by decide) k hk))
      have HEl := (show Hid (∀ u u' us, Below w1.heap.size w1 u → Gr2 u u' b v → (∀ c ∈ us, Fr w1.heap.size c) → Els u us L → Els u' us L) from fun u u' us hu hG ha he => Els.gr2 hG (h1.below hu).row he (fun c hc k hk e => by have := ha c hc k e; have := h1.own.lt k hk; omega))
      obtain ⟨⟨D, E⟩, hE⟩ : ∃ T, T = reD d (d.l.take S) := ⟨_, rfl⟩
      rw [← hE] at HR ⊢
      dsimp only at HR ⊢
      clear hE
      clear hN hS hL h hNl
      go_enter Try.func15, Try.ntmps15
      go_upto_region 2 with fail
      have hw1' : w.alloc (.cells #[.pointer (some ⟨b, 0, none⟩)] 72) = w1 := hw1.symm
      rw [hw1']
      clear hw1 hw1'
      go_upto_region 5 with (first
        | (go_at_call 36; refine (HD.out ()).mono ?_; rintro e w1 ⟨rfl, rfl⟩)
        | (go_at_call 29; refine (HBy.out ()).mono ?_; rintro e w2 ⟨o2, rfl, ho2, hf2, hb2⟩))
      obtain ⟨ao, cc, rfl, hcc⟩ := HF.out w2 o2 ho2
      have hcut := run_cutD ao N cc S (by omega) hcc
      go_upto_region 7 with (go_at_call 8; refine (HSc.out w2 _ ho2).mono ?_; rintro e w3 ⟨o3, us, rfl, ho3, he3, hf3, hb3, ha3⟩)
      have hb13 := below_and hb2 (Nat.le_refl _) hb3
      have hdw : Below w1.heap.size w1 w3.drew := hb13.drew
      have s0 := SK.out w3 hb13
      have ho23 := ho2.below hb3
      have ha13 : ∀ c ∈ us, Fr w1.heap.size c := fun c hc => (ha3 c hc).mono hb2.size
      have hf03 : Fr w.heap.size o3 := hf3.mono (Nat.le_trans hsz hb2.size)
      go_region_held3 (fun u' => u'.cell? ⟨w.heap.size, 0, none⟩ = some (.pointer (some ⟨b, 0, none⟩)))
        (first | (with_reducible exact (HK.out _ w4 hdw hg4).cell (j := 0) rfl) | (with_reducible exact SK.out w3 hb13) | (with_reducible exact SK.out w3.drew hdw) | go_keep)
        (first | (go_at_call 37; refine (HR.out w3.drew ao cc hdw ho23.drew hf2).mono ?_; rintro e w4 ⟨v4, rfl, hd4, hg4, hs4⟩))
      all_goals (
        have ho4 := HE.out w3.drew w4 _ us hdw hg4 ho3.drew
        have he4 := HEl.out w3.drew w4 us hdw hg4 ha13 (he3.below ⟨rfl, rfl, rfl, Nat.le_refl _, fun _ _ => rfl⟩)
        have hr4 := HK.out w3.drew w4 hdw hg4
        have hG4 := HG.out w3.drew w4 hdw hg4
        by_cases hE0 : E = 0
        · subst hE0
          rw [if_pos rfl]
          go_wp2_with fail
          go_ret3
          exact ⟨_, _, _, us, rfl, hd4, hG4, hs4, fun _ => ⟨_, rfl, Nat.le_refl _, hr4⟩, fun e => absurd rfl e, ho4, he4, hf03, fun c hc => (ha13 c hc).mono hsz⟩
        · have hE1 : (E != 0) = true := by simpa using hE0
          rw [if_neg hE0]
          go_wp2_with fail
          go_ret3
          exact ⟨_, none, _, [], rfl, hd4, hG4, hs4, fun e => absurd e hE0, fun _ => rfl, Own.nil _ _, trivial, Fr.nil _, fun c hc => by cases hc⟩)
    · rw [if_neg hsn]
      have hSN : decide ((S : Int) < (N : Int)) = false := by simp; omega
      clear hN hS hL
      go_enter Try.func15, Try.ntmps15
      go_upto_region 2 with fail
      have hw1' : w.alloc (.cells #[.pointer (some ⟨b, 0, none⟩)] 72) = w1 := hw1.symm
      rw [hw1']
      clear hw1 hw1'
      go_upto_region 5 with (first
        | (go_at_call 36; refine (HD.out ()).mono ?_; rintro e w1 ⟨rfl, rfl⟩)
        | (go_at_call 29; refine (HBy.out ()).mono ?_; rintro e w2 ⟨o2, rfl, ho2, hf2, hb2⟩))
      obtain ⟨ao, cc, rfl, hcc⟩ := HF.out w2 o2 ho2
      go_wp2_with (go_at_call 8; refine (HSc.out w2 _ ho2).mono ?_; rintro e w3 ⟨o3, us, rfl, ho3, he3, hf3, hb3, ha3⟩)
      go_ret3
      have hb13 := below_and hb2 (Nat.le_refl _) hb3
      have hb03 := below_and hal (Nat.le_refl _) hb13
      exact ⟨v, _, _, us, rfl, h1.below hb13, Gr2.bel hb03, .inl rfl, fun _ => ⟨_, rfl, Nat.le_refl _, hrow.below hb13⟩, fun e => absurd rfl e, ho3, he3, hf3.mono (Nat.le_trans hsz hb2.size), fun c hc => (ha3 c hc).mono (Nat.le_trans hsz hb2.size)⟩
end Go.Proofs.Yteafgdidjdfiiaa
