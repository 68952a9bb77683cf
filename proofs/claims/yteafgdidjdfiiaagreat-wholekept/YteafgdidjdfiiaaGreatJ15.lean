/- Logs that break, plain. -/
import Derived.Test.YteafgdidjdfiiaaGreatJ14
import Derived.Deep.RegionHeld3
section
set_option linter.unusedVariables false
set_option linter.unusedSimpArgs false
namespace Go.Proofs.YteafgdidjdfiiaaGreat
open Go.RowKit Oct

theorem Dsk.one {w : World} {b : Nat} {v : Value} {d : PDk} (h : Dsk w b v d) : v.oneCell' = true := by
  obtain ⟨ao, cap, rfl, _⟩ := h.own.form; rfl
/-- The front of a slice can be read. -/
theorem Rd.front {w : World} {u : Value} {l : List Int} (h : Rd w u l) (n : Nat) (hn : n ≤ l.length) : ∃ a c, u = .slice a l.length c ∧ c ≤ maxLen ∧ l.length ≤ c ∧ Rd w (.slice a n c) (l.take n) := by
  obtain ⟨hb, ao, cap, rfl, h1, h2, h3, h4⟩ := h
  have hlen : (bc (l.take n)).length = n := by rw [bc_len, List.length_take]; omega
  rw [bc_len] at h1
  refine ⟨ao, cap, by rw [bc_len], h2, h1, hb.take _, ao, cap, by rw [hlen], by rw [hlen]; omega, h2, fun e => ?_, fun a ha j q hq => ?_⟩
  · obtain ⟨e1, e2⟩ := h3 e
    have e3 : l = [] := by simpa [bc] using e1
    subst e3
    simp [bc, e2]
  · have hj : j < n := by
      rcases Nat.lt_or_ge j n with h | h
      · exact h
      · rw [List.getElem?_eq_none (by omega)] at hq; cases hq
    refine h4 a ha j q ?_
    rw [bc_at] at hq ⊢
    rw [List.getElem?_take, if_pos hj] at hq
    exact hq
theorem run_cutD (ao : Option Addr) (n c m : Nat) (hm : m ≤ n) (hc : n ≤ c) (u : World) : (Instr.slice 28 (.slice ao n c) none (some (.int .i64 (m : Int))) none).run Tryz.prog u = .ok (.slice ao m c) u := by
  have ht : Tryz.prog.underlying 28 = some (.slice (Tryz.prog.elem 28)) := by kernel_rfl
  rw [run_slice_h u 28 ao n c ht .i64 (m : Int) (by omega) (by omega)]
  have hs : (sizeOf (Tryz.prog.elem 28)).run Tryz.prog u = .ok 1 u := by
    rw [show Tryz.prog.elem 28 = 5 by kernel_rfl]
    obtain ⟨i0, hi, hz0, hz1, hz2⟩ := info_parts Tryz.info5
    simp [sizeOf, typeInfo, hi, hz1]
  rw [hs]
  have e : (ao.map fun x => x.add 0) = ao := by cases ao <;> simp [Addr.add]
  simp only [Result.andThen, sliced, Int.toNat_natCast, Nat.mul_one, Nat.sub_zero, e, ite_self]

theorem ownB_len (a : Option Addr) (n c m k : Nat) : (Value.slice a n c).ownBlock = (Value.slice a m k).ownBlock := by cases a <;> rfl
theorem Dsk.set {w w1 w2 : World} {b : Nat} {v v' : Value} {d : PDk} {xs : List Int} (h : Dsk w b v d) (happ : App w 5 v w1 v' (bc xs)) (hr : Row w2 b 62 (dkc v' d)) (hg : w1.grownBy w2 (some b)) (hok : OkD { d with l := xs }) :
    Dsk w2 b v' { d with l := xs } ∧ Gr2 w w2 b v ∧ Spt w v v' := by
  have hrw := h.row.grown happ.grown h.ne
  have hn : v'.ownBlock ≠ some b := own_row_nD hrw happ.own (by decide)
  exact ⟨⟨hr, happ.own.grown hg (fun k hk => by cases hk; exact hn), hok⟩, (Gr2.ofv happ.grown).trans happ.spot (Gr2.of hg), happ.spot⟩
theorem Dsk.setC {w w1 w2 : World} {b : Nat} {v v' : Value} {d : PDk} {xs : List Int} (h : Dsk w b v d) (ho : Own w1 5 v' (bc xs)) (hf : Fr w.heap.size v') (hb : Below w.heap.size w w1) (hr : Row w2 b 62 (dkc v' d)) (hg : w1.grownBy w2 (some b)) (hok : OkD { d with l := xs }) :
    Dsk w2 b v' { d with l := xs } ∧ Gr2 w w2 b v ∧ Spt w v v' := by
  have hn : v'.ownBlock ≠ some b := own_row_nD (h.row.below hb) ho (by decide)
  exact ⟨⟨hr, ho.grown hg (fun k hk => by cases hk; exact hn), hok⟩, (Gr2.bel hb).trans (.inr hf) (Gr2.of hg), .inr hf⟩

set_option maxRecDepth 10000 in
set_option maxHeartbeats 1000000 in
theorem appendD_any (w : World) (b : Nat) (v u : Value) (d : PDk) (x : List Int) (h : Dsk w b v d) (hu : Rd w u x) (hub : x ≠ [] → u.ownBlock ≠ some b) (ha : x ≠ [] → ∀ k, v.ownBlock = some k → u.ownBlock ≠ some k) (hl : x.length ≤ 140737488355328) :
    Calls Tryz.prog 28 #[.pointer (some ⟨b, 0, none⟩), u] w fun e w' => ∃ v', e = .returned (.int .i64 (apD d x).2) ∧ Dsk w' b v' (apD d x).1 ∧ Gr2 w w' b v ∧ Spt w v v' := by
  have hx := hu.1
  have hne := h.ne
  have hdl := h.ok.len
  have hap := h.ok.ap hx
  have c0 := h.row.cell (j := 0) rfl
  obtain ⟨av, cv, hav, hcv⟩ := h.own.form
  rw [bc_len] at hav
  obtain ⟨au, cu, hau, hcu⟩ := hu.form
  have hn := refusal_any w b v d (d.l.length + x.length) h
  have hbr := breaks_any w b v d h
  obtain ⟨nl, hnl⟩ : ∃ nl, nl = d.l.length := ⟨_, rfl⟩
  obtain ⟨nx, hnx⟩ : ∃ nx, nx = x.length := ⟨_, rfl⟩
  by_cases h0 : noD d (d.l.length + x.length) = 0
  · have hno := noD_ok h0
    rw [h0] at hn
    have hr1 := h.ok.r1
    have hsum : d.l.length + x.length ≤ 4194304 := by omega
    have HS := (show Hid (d.l.length + x.length ≤ 140737488355328) by show _ ≤ _; omega)
    have HN := (show Hid (∀ _ : Unit, Calls Tryz.prog 56 #[.pointer (some ⟨b, 0, none⟩), .int .i64 (nl + nx)] w fun e w' => e = .returned (.int .i64 0) ∧ w' = w) from fun _ => by rw [hnl, hnx]; exact hn)
    clear hno hn hr1
    cases hb : brD d with
    | true =>
      have hA : apD d x = (diD { d with l := d.l ++ x.take (wit d.te x.length).toNat }, 115) := by unfold apD; rw [if_neg (by simp [h0]), if_pos hb]
      rw [hA] at hap ⊢
      have hco := co_br hb
      rw [hco, hb] at hbr
      have hwd := wit_bd (n := d.te) (m := (x.length : Int)) (by omega)
      obtain ⟨q, hq⟩ : ∃ q : Nat, wit d.te x.length = (q : Int) := ⟨_, (Int.toNat_of_nonneg hwd.1).symm⟩
      rw [hq, Int.toNat_natCast] at hap ⊢
      have hqx : q ≤ nx := by omega
      obtain ⟨ar, cr, har, hcr, hcr2, hfront⟩ := hu.front q (by omega)
      rw [hau] at har
      injection har with ha1 ha2 ha3
      subst ha1 ha3
      have hcx : nx ≤ cu := by omega
      have hcut := run_cutD au nx cu q (by omega) hcx
      have hok2 : OkD { d with l := d.l ++ x.take q } := ⟨h.ok.byt.app (hx.take _), by simp only [List.length_append, List.length_take]; omega, h.ok.r0, h.ok.r1, h.ok.w0, h.ok.w1⟩
      have HQ := (show Hid (∀ u, Calls Tryz.prog 53 #[.int .i64 d.te, .int .i64 nx] u fun e w' => e = .returned (.int .i64 q) ∧ w' = u) from fun u => by
        have := withinD_any u d.te nx
        rw [hnx, hq] at this
        rw [hnx]
        exact this)
      have HSQ := (show Hid (d.l.length + (x.take q).length ≤ 140737488355328) by show _ ≤ _; rw [List.length_take]; omega)
      have HF := (show Hid (∀ w1, w.grownBy w1 (some b) → Rd w1 (.slice au q cu) (x.take q)) from fun w1 hg => hfront.grown hg (fun hne k hk => by cases hk; intro e; refine hub (fun e2 => hne (by rw [e2]; simp)) ?_; rw [hau, ownB_len _ _ _ q cu]; exact e))
      have HAP := (show Hid ((x.take q) ≠ [] → ∀ k, v.ownBlock = some k → (Value.slice au q cu).ownBlock ≠ some k) from fun hxx k hk e => ha (fun e2 => hxx (by rw [e2]; simp)) k hk (by rw [hau, ownB_len _ _ _ q cu]; exact e))
      have HB := (show Hid (∀ _ : Unit, Calls Tryz.prog 57 #[.pointer (some ⟨b, 0, none⟩)] w fun e w' => e = .returned (.bool true) ∧ Dsk w' b v d ∧ w.grownBy w' (some b)) from fun _ => hbr)
      rw [← hnl] at hav
      rw [← hnx] at hau
      have hbl : (nl : Int) ≤ 4194304 := by omega
      have hbx : (nx : Int) ≤ 4194304 := by omega
      clear hA hbr hq hwd hb hco h0 ha2 hnl hnx hsum hfront hcr hcr2
      subst hav hau
      go_enter Tryz.func28, Tryz.ntmps28
      go_wp2_with (first
        | (go_at_call 56; refine (HN.out ()).mono ?_; rintro e w ⟨rfl, rfl⟩)
        | (go_at_call 57; refine (HB.out ()).mono ?_; rintro e w1 ⟨rfl, hd1, hg1⟩))
      have c0 := hd1.row.cell (j := 0) rfl
      have c5 := hd1.row.cell (j := 5) rfl
      have z0 := hd1.row.frozen 0
      have hF1 := HF.out w1 hg1
      have hD : Dsk w1.drew b _ d := ⟨hd1.row.drew, hd1.own.drew, hd1.ok⟩
      have hG : w.grownBy w1.drew (some b) := grown_to_drew hg1
      have hF : Rd w1.drew _ _ := hF1.drew
      go_region_law (first
        | (refine step_bytes (by rfl) _ _ (by rfl) (.slice av nl cv) d.l (by rfl) hD.own (.slice au q cu) (x.take q) (by rfl) hF.2 HSQ.out ?_; intro v2 w2 happ; obtain ⟨a2, c2, e2, hc2⟩ := happ.own.form; subst e2; have hrw := hD.row.grown happ.grown hD.ne; have d0 := hrw.cell (j := 0) rfl; have z2 := hrw.frozen 0)
        | (go_simp; go_at_call 53; refine (HQ.out _).mono ?_; rintro e w0 ⟨rfl, rfl⟩))
      all_goals (
        obtain ⟨hD2, hG2, hS2⟩ := hD.set happ (hrw.set 0 _) (grown_set _ b 0 _) hok2
        have hD3 := (Gr2.of (v := .slice av nl cv) hG).trans (.inl rfl) hG2
        generalize w2.setCell ⟨b, 0, none⟩ (.slice a2 (bc (d.l ++ x.take q)).length c2) = w3 at hD2 hG2 hD3 ⊢
        have hS3 : Spt w (.slice av nl cv) (.slice a2 (bc (d.l ++ x.take q)).length c2) := hS2.imp id (fun h => h.mono hG.size)
        clear hrw d0 z2 happ hF1 hD hG hF c0 c5 z0 hG2 hS2
        go_wp2_with (go_at_call 58; refine (die_any w3 b _ _ hD2).mono ?_; rintro e w4 ⟨rfl, hd4, hg4⟩)
        go_ret
        exact ⟨_, rfl, hd4, hD3.trans hS3 (Gr2.of hg4), hS3⟩)
    | false =>
      have hA : apD d x = ({ coD d with l := d.l ++ x }, 0) := by unfold apD; rw [if_neg (by simp [h0]), if_neg (by simp [hb])]
      rw [hA] at hap ⊢
      rw [hb] at hbr
      have HB := (show Hid (∀ _ : Unit, Calls Tryz.prog 57 #[.pointer (some ⟨b, 0, none⟩)] w fun e w' => e = .returned (.bool false) ∧ Dsk w' b v (coD d) ∧ w.grownBy w' (some b)) from fun _ => hbr)
      have hcl := co_l d
      have HCL := (show Hid ((coD d).l = d.l) from hcl)
      have HF := (show Hid (∀ w1, w.grownBy w1 (some b) → Rd w1 (.slice au nx cu) x) from fun w1 hg => hu.grown hg (fun hne k hk => by cases hk; exact hub hne) |> (by rw [hnx, ← hau]; exact ·))
      have hbl : (nl : Int) ≤ 4194304 := by omega
      have hbx : (nx : Int) ≤ 4194304 := by omega
      rw [← hnl] at hav
      rw [← hnx] at hau
      clear hA hbr hb h0 hnl hnx hsum
      subst hav hau
      go_enter Tryz.func28, Tryz.ntmps28
      go_upto_region 7 with (first
        | (go_at_call 56; refine (HN.out ()).mono ?_; rintro e w ⟨rfl, rfl⟩)
        | (go_at_call 57; refine (HB.out ()).mono ?_; rintro e w1 ⟨rfl, hd1, hg1⟩))
      have c0 := hd1.row.cell (j := 0) rfl
      have hF1 := HF.out w1 hg1
      have hown1 : Own w1 5 (.slice av nl cv) (bc d.l) := by have := hd1.own; rwa [HCL.out] at this
      go_wp2_with (first
        | (at_builtin; refine app_bytes rfl _ _ rfl _ d.l rfl hown1 _ x rfl hF1.2 HS.out ?_; intro v2 w2 happ; have hrw := hd1.row.grown happ.grown hd1.ne)
        | (refine wl_set rfl _ _ _ rfl b 0 _ rfl rfl _ _ hrw (show 0 < 6 by decide) (by kernel_rfl) (own1 happ.own) ?_; intro w3 hr3 hg3))
      go_ret
      obtain ⟨hD2, hG2, hS2⟩ := hd1.set happ hr3.out hg3 hap
      exact ⟨_, rfl, hD2, (Gr2.of hg1).trans (.inl rfl) hG2, hS2.imp id (fun h => h.mono hg1.size)⟩
  · have hA : apD d x = (d, noD d (d.l.length + x.length)) := by unfold apD; rw [if_pos (by simpa using h0)]
    rw [hA]
    obtain ⟨E, hE⟩ : ∃ E, E = noD d (d.l.length + x.length) := ⟨_, rfl⟩
    rw [← hE] at hn h0 ⊢
    have hE0 : (E != 0) = true := by simpa using h0
    have HN := (show Hid (∀ _ : Unit, Calls Tryz.prog 56 #[.pointer (some ⟨b, 0, none⟩), .int .i64 (nl + nx)] w fun e w' => e = .returned (.int .i64 E) ∧ w' = w) from fun _ => by rw [hnl, hnx]; exact hn)
    have hbl : (nl : Int) ≤ 4194304 := by omega
    have hbx : (nx : Int) ≤ 140737488355328 := by omega
    rw [← hnl] at hav
    rw [← hnx] at hau
    clear hA hn hE hnl hnx h0 hbr
    subst hav hau
    go_enter Tryz.func28, Tryz.ntmps28
    go_wp2_with (go_at_call 56; refine (HN.out ()).mono ?_; rintro e w ⟨rfl, rfl⟩)
    go_ret
    exact ⟨_, rfl, h, Gr2.refl _ _ _, .inl rfl⟩

set_option maxRecDepth 10000 in
set_option maxHeartbeats 1000000 in
theorem replaceD_any (w : World) (b : Nat) (v u : Value) (d : PDk) (x : List Int) (h : Dsk w b v d) (hu : Rd w u x) (hub : x ≠ [] → u.ownBlock ≠ some b) (hl : x.length ≤ 140737488355328) :
    Calls Tryz.prog 23 #[.pointer (some ⟨b, 0, none⟩), u] w fun e w' => ∃ v', e = .returned (.int .i64 (reD d x).2) ∧ Dsk w' b v' (reD d x).1 ∧ Gr2 w w' b v ∧ Spt w v v' := by
  have hx := hu.1
  have hap := h.ok.re hx
  obtain ⟨au, cu, hau, hcu⟩ := hu.form
  have hn := refusal_any w b v d x.length h
  have hbr := breaks_any w b v d h
  have hrdu := hu
  obtain ⟨nx, hnx⟩ : ∃ nx, nx = x.length := ⟨_, rfl⟩
  have hbx : (nx : Int) ≤ 140737488355328 := by omega
  have HL := (show Hid (x.length ≤ 140737488355328) from hl)
  rw [← hnx] at hau hn
  subst hau
  by_cases h0 : noD d x.length = 0
  · rw [hnx, h0, ← hnx] at hn
    have HN := (show Hid (∀ _ : Unit, Calls Tryz.prog 56 #[.pointer (some ⟨b, 0, none⟩), .int .i64 nx] w fun e w' => e = .returned (.int .i64 0) ∧ w' = w) from fun _ => hn)
    cases hb : brD d with
    | true =>
      have hA : reD d x = (diD d, 115) := by unfold reD; rw [if_neg (by simp [h0]), if_pos hb]
      rw [hA]
      rw [co_br hb, hb] at hbr
      have HB := (show Hid (∀ _ : Unit, Calls Tryz.prog 57 #[.pointer (some ⟨b, 0, none⟩)] w fun e w' => e = .returned (.bool true) ∧ Dsk w' b v d ∧ w.grownBy w' (some b)) from fun _ => hbr)
      clear hA hn hbr hb h0 hnx hl
      go_enter Tryz.func23, Tryz.ntmps23
      go_wp2_with (first
        | (go_at_call 56; refine (HN.out ()).mono ?_; rintro e w ⟨rfl, rfl⟩)
        | (go_at_call 58; refine (die_any w1 b _ _ hd1).mono ?_; rintro e w4 ⟨rfl, hd4, hg4⟩)
        | (go_at_call 57; refine (HB.out ()).mono ?_; rintro e w1 ⟨rfl, hd1, hg1⟩))
      go_ret
      exact ⟨_, rfl, hd4, Gr2.of (grown_trans hg1 hg4 (.inl rfl)), .inl rfl⟩
    | false =>
      have hA : reD d x = ({ coD d with l := x }, 0) := by unfold reD; rw [if_neg (by simp [h0]), if_neg (by simp [hb])]
      rw [hA] at hap ⊢
      rw [hb] at hbr
      have HB := (show Hid (∀ _ : Unit, Calls Tryz.prog 57 #[.pointer (some ⟨b, 0, none⟩)] w fun e w' => e = .returned (.bool false) ∧ Dsk w' b v (coD d) ∧ w.grownBy w' (some b)) from fun _ => hbr)
      have HC := (show Hid (∀ w1, w.grownBy w1 (some b) → Calls Tryz.prog 54 #[.slice au nx cu] w1 fun e w' => ∃ v', e = .returned v' ∧ Own w' 5 v' (bc x) ∧ Fr w1.heap.size v' ∧ Below w1.heap.size w1 w') from fun w1 hg => clone_own w1 _ x (hrdu.grown hg (fun hne k hk => by cases hk; exact hub hne)) HL.out)
      clear hA hn hbr hb h0 hnx hl
      go_enter Tryz.func23, Tryz.ntmps23
      go_wp2_with (first
        | (go_at_call 56; refine (HN.out ()).mono ?_; rintro e w ⟨rfl, rfl⟩)
        | (go_at_call 57; refine (HB.out ()).mono ?_; rintro e w1 ⟨rfl, hd1, hg1⟩)
        | (go_at_call 54; refine (HC.out w1 hg1).mono ?_; rintro e w2 ⟨v2, rfl, ho2, hf2, hb2⟩; have hrw := hd1.row.below hb2)
        | (refine wl_set rfl _ _ _ rfl b 0 _ rfl rfl _ _ hrw (show 0 < 6 by decide) (by kernel_rfl) (own1 ho2) ?_; intro w3 hr3 hg3))
      go_ret
      obtain ⟨hD2, hG2, hS2⟩ := hd1.setC ho2 hf2 hb2 hr3.out hg3 hap
      exact ⟨_, rfl, hD2, (Gr2.of hg1).trans (.inl rfl) hG2, hS2.imp id (fun h => h.mono hg1.size)⟩
  · have hA : reD d x = (d, noD d x.length) := by unfold reD; rw [if_pos (by simpa using h0)]
    rw [hA]
    obtain ⟨E, hE⟩ : ∃ E, E = noD d x.length := ⟨_, rfl⟩
    rw [hnx, ← hE, ← hnx] at hn
    rw [← hE] at h0 ⊢
    have hE0 : (E != 0) = true := by simpa using h0
    have HN := (show Hid (∀ _ : Unit, Calls Tryz.prog 56 #[.pointer (some ⟨b, 0, none⟩), .int .i64 nx] w fun e w' => e = .returned (.int .i64 E) ∧ w' = w) from fun _ => hn)
    clear hA hn hE hnx h0 hbr hl
    go_enter Tryz.func23, Tryz.ntmps23
    go_wp2_with (go_at_call 56; refine (HN.out ()).mono ?_; rintro e w ⟨rfl, rfl⟩)
    go_ret
    exact ⟨_, rfl, h, Gr2.refl _ _ _, .inl rfl⟩
end Go.Proofs.YteafgdidjdfiiaaGreat
end

section
set_option linter.unusedVariables false
set_option linter.unusedSimpArgs false
namespace Go.Proofs.YteafgdidjdfiiaaGreat
open Go.RowKit Oct

/-- What opening makes of a disk, and its error. -/
def opT (d : PDk) : PDk × Int := if d.dead = true then (d, 115) else if (scn d.l).2 < d.l.length then reD d (d.l.take (scn d.l).2) else (d, 0)
/-- The records that it finds. -/
def opL (d : PDk) : List (List Int) := if (opT d).2 = 0 then (scn d.l).1 else []
theorem OkD.op {d : PDk} (h : OkD d) : OkD (opT d).1 := by
  unfold opT
  split
  · exact h
  split
  · exact h.re (h.byt.take _)
  · exact h
def lgc (b : Nat) : List Value := [.pointer (some ⟨b, 0, none⟩)]
theorem frm_byt {t : List Int} (h : Byt t) (hl : t.length ≤ 140737488355300) : Byt (frm t) := (enc_byt _ (by omega) (by omega)).app h
theorem frm_len (t : List Int) : (frm t).length ≤ t.length + 10 := by have := enc_len (t.length : Int); unfold frm; rw [List.length_append]; omega

theorem Gr2.lg {w w' : World} {g b b' : Nat} {v : Value} {d : PDk} (h : Gr2 w w' b v) (hd : Dsk w b v d) (hg : Row w g 65 (lgc b')) : Row w' g 65 (lgc b') :=
  h.row hg (Ne.symm (hd.row.apart hg (by decide))) (own_row_nD hg hd.own (by decide))

set_option maxRecDepth 10000 in
set_option maxHeartbeats 1000000 in
theorem addW_any (w : World) (g b : Nat) (v u : Value) (d : PDk) (x : List Int) (hg : Row w g 65 (lgc b)) (h : Dsk w b v d) (hu : Rd w u x) (hl : x.length ≤ 140737488355300) :
    Calls Tryz.prog 10 #[.pointer (some ⟨g, 0, none⟩), u] w fun e w' => ∃ v', e = .returned (.int .i64 (apD d (frm x)).2) ∧ Dsk w' b v' (apD d (frm x)).1 ∧ Gr2 w w' b v ∧ Spt w v v' := by
  have hdw : Below w.heap.size w w.drew := ⟨rfl, rfl, rfl, Nat.le_refl _, fun _ _ => rfl⟩
  have HB := (show Hid (∀ u', Below w.heap.size w u' → Calls Tryz.prog 27 #[u] u' fun e w' => ∃ v', e = .returned v' ∧ Own w' 5 v' (bc (frm x)) ∧ Fr w.heap.size v' ∧ Below w.heap.size w w') from fun u' hb => by
    refine (bytes_any u' u x (hu.below hb) hl).mono ?_
    rintro e w' ⟨v', e1, e2, e3, e4⟩
    exact ⟨v', e1, e2, e3.mono hb.size, below_and hb (Nat.le_refl _) e4⟩)
  have HA := (show Hid (∀ u' o, Below w.heap.size w u' → Own u' 5 o (bc (frm x)) → Fr w.heap.size o → Calls Tryz.prog 28 #[.pointer (some ⟨b, 0, none⟩), o] u' fun e w' => ∃ v', e = .returned (.int .i64 (apD d (frm x)).2) ∧ Dsk w' b v' (apD d (frm x)).1 ∧ Gr2 w w' b v ∧ Spt w v v') from fun u' o hb ho hf => by
    have hd := h.below hb
    refine (appendD_any u' b v o d (frm x) hd (ho.rd (frm_byt hu.1 hl)) (fun _ => hd.nu ho) (fun _ k hk e => by have := hf k e; have := h.own.lt k hk; omega) (by have := frm_len x; omega)).mono ?_
    rintro e w' ⟨v', e1, e2, e3, e4⟩
    exact ⟨v', e1, e2, (Gr2.bel hb).trans (.inl rfl) e3, e4.imp id (fun h => h.mono hb.size)⟩)
  have SK := (show Hid (∀ u', Below w.heap.size w u' → u'.cell? ⟨g, 0, none⟩ = some (.pointer (some ⟨b, 0, none⟩))) from fun u' hb => (hg.below hb).cell (j := 0) rfl)
  have s0 := SK.out w (Below.refl _ _)
  have HK := (show Hid (∀ u', Gr2 w u' b v → u'.cell? ⟨g, 0, none⟩ = some (.pointer (some ⟨b, 0, none⟩))) from fun u' hG => (hG.lg h hg).cell (j := 0) rfl)
  obtain ⟨E, hE⟩ : ∃ E, E = (apD d (frm x)).2 := ⟨_, rfl⟩
  rw [← hE] at HA ⊢
  clear hE hg h hu
  go_enter Tryz.func10, Tryz.ntmps10
  go_wp2_with fail
  go_region_held3 (fun u' => u'.cell? ⟨g, 0, none⟩ = some (.pointer (some ⟨b, 0, none⟩)))
    (first | (with_reducible exact HK.out w2 hg2) | (with_reducible exact SK.out w1 hB1) | (with_reducible exact SK.out w (Below.refl _ _)) | (with_reducible exact SK.out w.drew hdw) | go_keep)
    (first
      | (go_at_call 28; refine (HA.out _ o1 (by first | (with_reducible exact hB1) | (with_reducible exact hB1.drew)) (by first | (with_reducible exact ho1) | (with_reducible exact ho1.drew)) hf1).mono ?_; rintro e w2 ⟨v2, rfl, hd2, hg2, hs2⟩)
      | (go_at_call 27; refine (HB.out _ (by first | (with_reducible exact Below.refl _ _) | (with_reducible exact hdw))).mono ?_; rintro e w1 ⟨o1, rfl, ho1, hf1, hB1⟩))
  all_goals (
    go_wp2_with fail
    go_ret
    exact ⟨_, rfl, hd2, hg2, hs2⟩)


theorem Els.gr2 {w w' : World} {b : Nat} {v : Value} {t : List Value} (hr : Gr2 w w' b v) (hrow : Row w b 62 t) : ∀ {us : List Value} {L : List (List Int)}, Els w us L → (∀ c ∈ us, ∀ k, v.ownBlock = some k → c.ownBlock ≠ some k) → Els w' us L
  | [], [], _, _ => trivial
  | c :: us, l :: L, h, ha => ⟨hr.own h.1 (own_row_nD hrow h.1 (by decide)) (ha c (by simp)), Els.gr2 hr hrow h.2 (fun x hx => ha x (by simp [hx]))⟩
  | [], _ :: _, h, _ => h.elim
  | _ :: _, [], h, _ => h.elim

/-- What opening comes to. -/
def OpP (w : World) (b : Nat) (v : Value) (T : PDk × Int) (L : List (List Int)) (e : Ending) (w' : World) : Prop := ∃ v' m o us, e = .returned (.tuple #[.pointer m, o, .int .i64 T.2]) ∧ Dsk w' b v' T.1 ∧ Gr2 w w' b v ∧ Spt w v v' ∧
      (T.2 = 0 → ∃ g, m = some ⟨g, 0, none⟩ ∧ w.heap.size ≤ g ∧ Row w' g 65 (lgc b)) ∧ (T.2 ≠ 0 → m = none) ∧ Own w' 28 o us ∧ Els w' us L ∧ Fr w.heap.size o ∧ ∀ c ∈ us, Fr w.heap.size c

set_option maxRecDepth 10000 in
set_option maxHeartbeats 1000000 in
theorem openW_any (w : World) (b : Nat) (v : Value) (d : PDk) (h : Dsk w b v d) :
    Calls Tryz.prog 6 #[.pointer (some ⟨b, 0, none⟩)] w (OpP w b v (opT d) (opL d)) := by
  have hal := below_alloc w (.cells (lgc b).toArray 65)
  have hrow := Row.new w 65 (lgc b)
  obtain ⟨w1, hw1⟩ : ∃ w1, w1 = w.alloc (.cells (lgc b).toArray 65) := ⟨_, rfl⟩
  rw [← hw1] at hal hrow
  have h1 := h.below hal
  have c0 := hrow.cell (j := 0) rfl
  have hde := dead_any w1 b v d h1
  unfold opL opT
  cases hd : d.dead with
  | true =>
    rw [hd] at hde
    have HD := (show Hid (∀ _ : Unit, _) from fun _ => hde)
    rw [if_pos rfl, if_neg (show ¬ ((115 : Int) = 0) by decide)]
    clear hde
    go_enter Tryz.func6, Tryz.ntmps6
    go_upto_region 2 with fail
    have hw1' : w.alloc (.cells #[.pointer (some ⟨b, 0, none⟩)] 65) = w1 := hw1.symm
    rw [hw1']
    clear hw1 hw1'
    go_wp2_with (go_at_call 11; refine (HD.out ()).mono ?_; rintro e w1 ⟨rfl, rfl⟩)
    go_ret3
    exact ⟨v, none, _, [], rfl, h1, Gr2.bel hal, .inl rfl, fun e => (by cases e), fun _ => rfl, Own.nil _ _, trivial, Fr.nil _, fun c hc => by cases hc⟩
  | false =>
    rw [hd] at hde
    have HD := (show Hid (∀ _ : Unit, _) from fun _ => hde)
    have HBy := (show Hid (∀ _ : Unit, _) from fun _ => bytesD_any w1 b v d h1)
    have hlen := h.ok.len
    have HSc := (show Hid (∀ u o, Own u 5 o (bc d.l) → Calls Tryz.prog 22 #[o] u fun e w' => ∃ v' us, e = .returned (.tuple #[v', .int .i64 ((scn d.l).2 : Int)]) ∧ Own w' 28 v' us ∧ Els w' us (scn d.l).1 ∧ Fr u.heap.size v' ∧ Below u.heap.size u w' ∧ ∀ c ∈ us, Fr u.heap.size c) from fun u o ho => scan_any u o d.l (ho.rd h.ok.byt) (by omega))
    obtain ⟨N, hN⟩ : ∃ N, N = d.l.length := ⟨_, rfl⟩
    obtain ⟨S, hS⟩ : ∃ S, S = (scn d.l).2 := ⟨_, rfl⟩
    obtain ⟨L, hL⟩ : ∃ L, L = (scn d.l).1 := ⟨_, rfl⟩
    rw [← hS, ← hL] at HSc
    rw [if_neg (by simp), ← hS, ← hN, ← hL]
    have hNb : (N : Int) ≤ 4194304 := by omega
    have hsz := hal.size
    have HF := (show Hid (∀ (u : World) (o : Value), Own u 5 o (bc d.l) → ∃ ao c, o = .slice ao N c ∧ N ≤ c) from fun u o ho => by
      obtain ⟨ao, c, e, h1, h2, _⟩ := (ho.rd h.ok.byt).2
      rw [bc_len, ← hN] at e h1
      exact ⟨ao, c, e, h1⟩)
    clear hde hlen
    by_cases hsn : S < N
    · rw [if_pos hsn]
      have hSi : (S : Int) < (N : Int) := by omega
      have hNl := Nat.le_of_eq hN
      have HR := (show Hid (∀ u o c, Below w1.heap.size w1 u → Own u 5 (.slice o N c) (bc d.l) → Fr w1.heap.size (.slice o N c) → Calls Tryz.prog 23 #[.pointer (some ⟨b, 0, none⟩), .slice o S c] u fun e w' => ∃ v', e = .returned (.int .i64 (reD d (d.l.take S)).2) ∧ Dsk w' b v' (reD d (d.l.take S)).1 ∧ Gr2 u w' b v ∧ Spt w v v') from fun u o c hu ho hf => by
        obtain ⟨ar, cr, har, hcr, hcr2, hfront⟩ := (ho.rd h.ok.byt).front S (by omega)
        injection har with ha1 ha2 ha3
        subst ha1 ha3
        have hdu := h1.below hu
        refine (replaceD_any u b v (.slice o S c) d (d.l.take S) hdu hfront (fun _ e => by rw [ownB_len o S c N c] at e; exact hdu.nu ho e) (by rw [List.length_take]; omega)).mono ?_
        rintro e w' ⟨v', e1, e2, e3, e4⟩
        exact ⟨v', e1, e2, e3, e4.imp id (fun h => h.mono (Nat.le_trans hsz hu.size))⟩)
      have SK := (show Hid (∀ u, Below w1.heap.size w1 u → u.cell? ⟨w.heap.size, 0, none⟩ = some (.pointer (some ⟨b, 0, none⟩))) from fun u hu => (hrow.below hu).cell (j := 0) rfl)
      have HK := (show Hid (∀ u u', Below w1.heap.size w1 u → Gr2 u u' b v → Row u' w.heap.size 65 (lgc b)) from fun u u' hu hG => hG.lg (h1.below hu) (hrow.below hu))
      have HG := (show Hid (∀ u u', Below w1.heap.size w1 u → Gr2 u u' b v → Gr2 w u' b v) from fun u u' hu hG => (Gr2.bel (below_and hal (Nat.le_refl _) hu)).trans (.inl rfl) hG)
      have HE := (show Hid (∀ u u' o us, Below w1.heap.size w1 u → Gr2 u u' b v → Own u 28 o us → Own u' 28 o us) from fun u u' o us hu hG ho => hG.own ho (own_row_nD (h1.below hu).row ho (by decide)) (fun k hk => (h1.below hu).own.apart ho (by decide) k hk))
      have HEl := (show Hid (∀ u u' us, Below w1.heap.size w1 u → Gr2 u u' b v → (∀ c ∈ us, Fr w1.heap.size c) → Els u us L → Els u' us L) from fun u u' us hu hG ha he => Els.gr2 hG (h1.below hu).row he (fun c hc k hk e => by have := ha c hc k e; have := h1.own.lt k hk; omega))
      obtain ⟨⟨D, E⟩, hE⟩ : ∃ T, T = reD d (d.l.take S) := ⟨_, rfl⟩
      rw [← hE] at HR ⊢
      dsimp only at HR ⊢
      clear hE
      clear hN hS hL h hNl
      go_enter Tryz.func6, Tryz.ntmps6
      go_upto_region 2 with fail
      have hw1' : w.alloc (.cells #[.pointer (some ⟨b, 0, none⟩)] 65) = w1 := hw1.symm
      rw [hw1']
      clear hw1 hw1'
      go_upto_region 5 with (first
        | (go_at_call 11; refine (HD.out ()).mono ?_; rintro e w1 ⟨rfl, rfl⟩)
        | (go_at_call 21; refine (HBy.out ()).mono ?_; rintro e w2 ⟨o2, rfl, ho2, hf2, hb2⟩))
      obtain ⟨ao, cc, rfl, hcc⟩ := HF.out w2 o2 ho2
      have hcut := run_cutD ao N cc S (by omega) hcc
      go_upto_region 7 with (go_at_call 22; refine (HSc.out w2 _ ho2).mono ?_; rintro e w3 ⟨o3, us, rfl, ho3, he3, hf3, hb3, ha3⟩)
      have hb13 := below_and hb2 (Nat.le_refl _) hb3
      have hdw : Below w1.heap.size w1 w3.drew := hb13.drew
      have s0 := SK.out w3 hb13
      have ho23 := ho2.below hb3
      have ha13 : ∀ c ∈ us, Fr w1.heap.size c := fun c hc => (ha3 c hc).mono hb2.size
      have hf03 : Fr w.heap.size o3 := hf3.mono (Nat.le_trans hsz hb2.size)
      go_region_held3 (fun u' => u'.cell? ⟨w.heap.size, 0, none⟩ = some (.pointer (some ⟨b, 0, none⟩)))
        (first | (with_reducible exact (HK.out _ w4 hdw hg4).cell (j := 0) rfl) | (with_reducible exact SK.out w3 hb13) | (with_reducible exact SK.out w3.drew hdw) | go_keep)
        (first | (go_at_call 23; refine (HR.out w3.drew ao cc hdw ho23.drew hf2).mono ?_; rintro e w4 ⟨v4, rfl, hd4, hg4, hs4⟩))
      all_goals (
        have ho4 := HE.out w3.drew w4 _ us hdw hg4 ho3.drew
        have he4 := HEl.out w3.drew w4 us hdw hg4 ha13 (he3.below ⟨rfl, rfl, rfl, Nat.le_refl _, fun _ _ => rfl⟩)
        have hr4 := HK.out w3.drew w4 hdw hg4
        have hG4 := HG.out w3.drew w4 hdw hg4
        by_cases hE0 : E = 0
        · subst hE0
          rw [if_pos rfl]
          go_wp2_with fail
          go_ret3
          exact ⟨_, _, _, us, rfl, hd4, hG4, hs4, fun _ => ⟨_, rfl, Nat.le_refl _, hr4⟩, fun e => absurd rfl e, ho4, he4, hf03, fun c hc => (ha13 c hc).mono hsz⟩
        · have hE1 : (E != 0) = true := by simpa using hE0
          rw [if_neg hE0]
          go_wp2_with fail
          go_ret3
          exact ⟨_, none, _, [], rfl, hd4, hG4, hs4, fun e => absurd e hE0, fun _ => rfl, Own.nil _ _, trivial, Fr.nil _, fun c hc => by cases hc⟩)
    · rw [if_neg hsn]
      have hSN : decide ((S : Int) < (N : Int)) = false := by simp; omega
      clear hN hS hL
      go_enter Tryz.func6, Tryz.ntmps6
      go_upto_region 2 with fail
      have hw1' : w.alloc (.cells #[.pointer (some ⟨b, 0, none⟩)] 65) = w1 := hw1.symm
      rw [hw1']
      clear hw1 hw1'
      go_upto_region 5 with (first
        | (go_at_call 11; refine (HD.out ()).mono ?_; rintro e w1 ⟨rfl, rfl⟩)
        | (go_at_call 21; refine (HBy.out ()).mono ?_; rintro e w2 ⟨o2, rfl, ho2, hf2, hb2⟩))
      obtain ⟨ao, cc, rfl, hcc⟩ := HF.out w2 o2 ho2
      go_wp2_with (go_at_call 22; refine (HSc.out w2 _ ho2).mono ?_; rintro e w3 ⟨o3, us, rfl, ho3, he3, hf3, hb3, ha3⟩)
      go_ret3
      have hb13 := below_and hb2 (Nat.le_refl _) hb3
      have hb03 := below_and hal (Nat.le_refl _) hb13
      exact ⟨v, _, _, us, rfl, h1.below hb13, Gr2.bel hb03, .inl rfl, fun _ => ⟨_, rfl, Nat.le_refl _, hrow.below hb13⟩, fun e => absurd rfl e, ho3, he3, hf3.mono (Nat.le_trans hsz hb2.size), fun c hc => (ha3 c hc).mono (Nat.le_trans hsz hb2.size)⟩
end Go.Proofs.YteafgdidjdfiiaaGreat
end

section
set_option linter.unusedVariables false
set_option linter.unusedSimpArgs false
namespace Go.Proofs.YteafgdidjdfiiaaGreat
open Go.RowKit Oct

/-- A disk of full room: whole; one that is to break after n writes; one that broke. -/
def whD (l : List Int) : PDk := ⟨l, 4194304, false, false, 0, 0⟩
def tkA (l : List Int) (n t : Int) : PDk := ⟨l, 4194304, false, true, n, t⟩
def tkB (l : List Int) : PDk := ⟨l, 4194304, true, false, 0, 0⟩
theorem nw_whD : nwD 4194304 = whD [] := by kernel_rfl
theorem me_tkA (l : List Int) (n t : Int) : meD (tkA l n t) = whD l := rfl
theorem me_tkB (l : List Int) : meD (tkB l) = whD l := rfl
theorem me_whD (l : List Int) : meD (whD l) = whD l := rfl
theorem tkA_no {l : List Int} {n t m : Int} (h : m ≤ 4194304) : noD (tkA l n t) m = 0 := by
  unfold noD tkA
  rw [if_neg (by simp), if_neg (by simp only; omega)]
theorem whD_no {l : List Int} {m : Int} (h : m ≤ 4194304) : noD (whD l) m = 0 := by
  unfold noD whD
  rw [if_neg (by simp), if_neg (by simp only; omega)]
theorem tk_tick {l x : List Int} {n t : Int} (h : l.length + x.length ≤ 4194304) (hn : 0 < n) : apD (tkA l n t) x = (tkA (l ++ x) (n - 1) t, 0) := by
  have h0 : noD (tkA l n t) ((tkA l n t).l.length + x.length) = 0 := tkA_no (by simp only [tkA]; omega)
  have hn0 : n ≠ 0 := by omega
  unfold apD
  rw [if_neg (fun h => h h0), if_neg (by simp [brD, tkA, hn0])]
  simp [coD, tkA, hn0]
theorem tk_tear {l x : List Int} {t : Int} (h : l.length + x.length ≤ 4194304) : apD (tkA l 0 t) x = (tkB (l ++ x.take (wit t x.length).toNat), 115) := by
  have h0 : noD (tkA l 0 t) ((tkA l 0 t).l.length + x.length) = 0 := tkA_no (by simp only [tkA]; omega)
  unfold apD
  rw [if_neg (fun h => h h0), if_pos (by simp [brD, tkA])]
  rfl
theorem tk_dead {l x : List Int} : apD (tkB l) x = (tkB l, 115) := by
  have h0 : noD (tkB l) ((tkB l).l.length + x.length) = 115 := by unfold noD tkB; rw [if_pos rfl]
  unfold apD
  rw [h0, if_pos (by decide)]
theorem wh_ap {l x : List Int} (h : l.length + x.length ≤ 4194304) : apD (whD l) x = (whD (l ++ x), 0) := by
  have h0 : noD (whD l) ((whD l).l.length + x.length) = 0 := whD_no (by simp only [whD]; omega)
  unfold apD
  rw [if_neg (fun h => h h0), if_neg (by simp [brD, whD])]
  simp [coD, whD]
theorem wh_re {l x : List Int} (h : x.length ≤ 4194304) : reD (whD l) x = (whD x, 0) := by
  have h0 : noD (whD l) x.length = 0 := whD_no (by omega)
  unfold reD
  rw [if_neg (fun h => h h0), if_neg (by simp [brD, whD])]
  simp [coD, whD]
theorem tk_re {l x : List Int} {t : Int} (h : x.length ≤ 4194304) : reD (tkA l 0 t) x = (tkB l, 115) := by
  have h0 : noD (tkA l 0 t) x.length = 0 := tkA_no (by omega)
  unfold reD
  rw [if_neg (fun h => h h0), if_pos (by simp [brD, tkA])]
  rfl
/-- Opening whole records. -/
theorem op_whole {ll : List (List Int)} (hl : Byts ll) (ht : tot ll ≤ 1000000000) : opT (whD (packL ll)) = (whD (packL ll), 0) ∧ opL (whD (packL ll)) = ll := by
  have hs := scn_pack hl ht
  have e : opT (whD (packL ll)) = (whD (packL ll), 0) := by
    unfold opT
    rw [if_neg (by simp [whD])]
    show (if (scn (packL ll)).2 < (packL ll).length then _ else _) = _
    rw [hs, if_neg (by simp)]
  refine ⟨e, ?_⟩
  unfold opL
  rw [e, if_pos rfl]
  show (scn (packL ll)).1 = ll
  rw [hs]
/-- Opening records with a torn one behind. -/
theorem op_torn {ll : List (List Int)} {t : List Int} (hl : Byts ll) (hb : Byt t) (ht : tot ll + t.length + 1 ≤ 400000) (k : Nat) (hk : k ≤ (frm t).length) :
    ∃ G, ll.length ≤ G ∧ G ≤ ll.length + 1 ∧ opT (whD (packL ll ++ (frm t).take k)) = (whD (packL ((ll ++ [t]).take G)), 0) ∧ opL (whD (packL ll ++ (frm t).take k)) = (ll ++ [t]).take G := by
  have hs := scn_torn hl hb (by omega) k
  have hpl := packL_len ll
  by_cases h : k < (frm t).length
  · rw [if_pos h] at hs
    refine ⟨ll.length, Nat.le_refl _, by omega, ?_⟩
    rw [List.take_left]
    have e : opT (whD (packL ll ++ (frm t).take k)) = (whD (packL ll), 0) := by
      unfold opT
      rw [if_neg (by simp [whD])]
      show (if (scn (packL ll ++ (frm t).take k)).2 < (packL ll ++ (frm t).take k).length then reD (whD (packL ll ++ (frm t).take k)) ((packL ll ++ (frm t).take k).take (scn (packL ll ++ (frm t).take k)).2) else (whD (packL ll ++ (frm t).take k), 0)) = _
      rw [hs]
      dsimp only
      rw [List.take_left]
      split
      · exact wh_re (by omega)
      · rename_i h2
        rw [List.length_append] at h2
        have : (frm t).take k = [] := List.eq_nil_of_length_eq_zero (by omega)
        rw [this, List.append_nil]
    refine ⟨e, ?_⟩
    unfold opL
    rw [e, if_pos rfl]
    show (scn (packL ll ++ (frm t).take k)).1 = ll
    rw [hs]
  · rw [if_neg h] at hs
    refine ⟨ll.length + 1, by omega, Nat.le_refl _, ?_⟩
    have e1 : (ll ++ [t]).take (ll.length + 1) = ll ++ [t] := List.take_of_length_le (by simp)
    have e2 : packL ll ++ (frm t).take k = packL (ll ++ [t]) := by rw [packL_frm, List.take_of_length_le (by omega)]
    rw [e1, e2]
    exact op_whole (fun x hx => by
      rcases List.mem_append.1 hx with h | h
      · exact hl x h
      · simp at h; subst h; exact hb) (by rw [tot_app]; simp only [tot]; omega)
/-- What a disk will be found to hold: T records, or one more. -/
def Kps (ll : List (List Int)) (T : Nat) (d : PDk) : Prop := ∃ G, T ≤ G ∧ G ≤ T + 1 ∧ G ≤ ll.length ∧ opT (meD d) = (whD (packL (ll.take G)), 0) ∧ opL (meD d) = ll.take G
theorem byts_take {ll : List (List Int)} (h : Byts ll) (k : Nat) : Byts (ll.take k) := fun x hx => h x (List.mem_of_mem_take hx)
theorem kps_whole {ll : List (List Int)} (hl : Byts ll) (ht : tot ll ≤ 400000) {T : Nat} (hT : T ≤ ll.length) {d : PDk} (hd : meD d = whD (packL (ll.take T))) : Kps ll T d := by
  obtain ⟨e1, e2⟩ := op_whole (byts_take hl T) (by have := tot_take ll T; omega)
  exact ⟨T, Nat.le_refl _, by omega, hT, by rw [hd]; exact e1, by rw [hd]; exact e2⟩
theorem kps_torn {ll : List (List Int)} (hl : Byts ll) (ht : tot ll ≤ 400000) {T : Nat} {x : List Int} (hx : ll[T]? = some x) (t : Int) : Kps ll T (tkB (packL (ll.take T) ++ (frm x).take (wit t (frm x).length).toNat)) := by
  have hT := (List.getElem?_eq_some_iff.1 hx).1
  have hsn := take_snoc' ll T x hx
  have htt : tot (ll.take T) + x.length + 1 ≤ 400000 := by
    have h1 := tot_take ll (T + 1)
    rw [hsn, tot_app] at h1
    simp only [tot] at h1
    omega
  have hwd := wit_bd (n := t) (m := ((frm x).length : Int)) (by omega)
  obtain ⟨G, g1, g2, g3, g4⟩ := op_torn (byts_take hl T) (hl x (List.mem_of_getElem? hx)) htt (wit t (frm x).length).toNat (by omega)
  have hlen : (ll.take T).length = T := by rw [List.length_take]; omega
  rw [hlen] at g1 g2
  have e : (ll.take T ++ [x]).take G = ll.take G := by rw [← hsn, List.take_take, Nat.min_eq_left (by omega)]
  rw [e] at g3 g4
  exact ⟨G, g1, g2, by omega, g3, g4⟩
/-- Lengths with five more each. -/
def s5 : List (List Int) → Nat
  | [] => 0
  | l :: r => l.length + 5 + s5 r
theorem s5_app : ∀ (a b : List (List Int)), s5 (a ++ b) = s5 a + s5 b
  | [], b => by simp [s5]
  | l :: r, b => by simp [s5, s5_app r b]; omega
theorem s5_tot : ∀ (a : List (List Int)), tot a ≤ s5 a
  | [] => by simp [tot, s5]
  | l :: r => by have := s5_tot r; simp [tot, s5]; omega
theorem s5_snoc {ll : List (List Int)} {k : Nat} {x : List Int} (h : ll[k]? = some x) : s5 (ll.take (k + 1)) = s5 (ll.take k) + x.length + 5 := by
  rw [take_snoc' ll k x h, s5_app]
  simp only [s5]
  omega
/-- Texts of a list that came in, each at its place. -/
theorem rdl_at {w : World} {v : Value} {ll : List (List Int)} (h : Rdl w v ll) (k : Nat) (x : List Int) (hx : ll[k]? = some x) : ∃ b off cap u, v = .slice (some ⟨b, off, none⟩) ll.length cap ∧ ll.length ≤ cap ∧ cap ≤ maxLen ∧ ∀ w', Below w.heap.size w w' → w'.cell? ⟨b, off + k, none⟩ = some u ∧ Rd w' u x := by
  obtain ⟨vs, h1, h2⟩ := h
  have hlen := h2.len
  have hk := (List.getElem?_eq_some_iff.1 hx).1
  obtain ⟨b, off, cap, e, c1, c2, hb, hc⟩ := h1.at (by omega)
  have hv := List.getElem?_eq_getElem (show k < vs.length by omega)
  exact ⟨b, off, cap, _, by rw [e, hlen], by omega, c2, fun w' hw => ⟨(hw.cell (p := ⟨b, off + k, none⟩) hb).trans (hc k _ hv), (h2.get hv hx).below hw⟩⟩
theorem All2.takeW {α β : Type} {R : α → β → Prop} : ∀ {xs : List α} {ys : List β}, All2 R xs ys → ∀ k, All2 R (xs.take k) (ys.take k)
  | [], [], _, k => by simp [All2]
  | x :: xs, y :: ys, h, 0 => trivial
  | x :: xs, y :: ys, h, k + 1 => ⟨h.1, All2.takeW h.2 k⟩
  | [], _ :: _, h, _ => h.elim
  | _ :: _, [], h, _ => h.elim
theorem rdl_form {w : World} {v : Value} {ll : List (List Int)} (h : Rdl w v ll) : ∃ ao cap, v = .slice ao ll.length cap ∧ ll.length ≤ cap ∧ cap ≤ maxLen := by
  obtain ⟨vs, ⟨ao, cap, e, c1, c2, _⟩, h2⟩ := h
  exact ⟨ao, cap, by rw [e, h2.len], by rw [← h2.len]; exact c1, c2⟩
/-- The first of them. -/
theorem rdl_take {w : World} {ao : Option Addr} {N cap : Nat} {ll : List (List Int)} (h : Rdl w (.slice ao N cap) ll) (G : Nat) (hG : G ≤ ll.length) : Rdl w (.slice ao G cap) (ll.take G) := by
  obtain ⟨vs, ⟨ao', cap', e, c1, c2, c3, c4⟩, h2⟩ := h
  injection e with e1 e2 e3
  subst e1 e3
  have hlen := h2.len
  have hvl : (vs.take G).length = G := by rw [List.length_take]; omega
  refine ⟨vs.take G, ⟨ao, cap, by rw [hvl], by omega, c2, fun ha => ?_, fun a ha j u hu => ?_⟩, h2.takeW G⟩
  · obtain ⟨h3, h4⟩ := c3 ha
    exact ⟨by rw [h3]; simp, h4⟩
  · refine c4 a ha j u ?_
    rw [List.getElem?_take] at hu
    split at hu
    · exact hu
    · cases hu
theorem run_cutT (ao : Option Addr) (n c m : Nat) (hm : m ≤ n) (hc : n ≤ c) (u : World) : (Instr.slice 38 (.slice ao n c) none (some (.int .i64 (m : Int))) none).run Tryz.prog u = .ok (.slice ao m c) u := by
  have ht : Tryz.prog.underlying 38 = some (.slice (Tryz.prog.elem 38)) := by kernel_rfl
  rw [run_slice_h u 38 ao n c ht .i64 (m : Int) (by omega) (by omega)]
  have hs : (sizeOf (Tryz.prog.elem 38)).run Tryz.prog u = .ok 1 u := by
    rw [show Tryz.prog.elem 38 = 28 by kernel_rfl]
    obtain ⟨i0, hi, hz0, hz1, hz2⟩ := info_parts Tryz.info23
    simp [sizeOf, typeInfo, hi, hz1]
  rw [hs]
  have e : (ao.map fun x => x.add 0) = ao := by cases ao <;> simp [Addr.add]
  simp only [Result.andThen, sliced, Int.toNat_natCast, Nat.mul_one, Nat.sub_zero, e, ite_self]
end Go.Proofs.YteafgdidjdfiiaaGreat
end
