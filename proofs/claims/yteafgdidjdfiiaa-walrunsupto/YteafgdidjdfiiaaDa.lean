/- disk.Append, disk.Replace. -/
import Derived.Test.YteafgdidjdfiiaaDm
set_option linter.unusedVariables false
set_option linter.unusedSimpArgs false
namespace Go.Proofs.Yteafgdidjdfiiaa
open Go.RowKit Oct

theorem Dsk.one {w : World} {b : Nat} {v : Value} {d : PDk} (h : Dsk w b v d) : v.oneCell' = true := by
  obtain ⟨ao, cap, rfl, _⟩ := h.own.form; rfl
/-- The front of a slice can be read. -/
theorem Rd.front {w : World} {u : Value} {l : List Int} (h : Rd w u l) (n : Nat) (hn : n ≤ l.length) : ∃ a c, u = .slice a l.length c ∧ c ≤ maxLen ∧ l.length ≤ c ∧ Rd w (.slice a n c) (l.take n) := by
  obtain ⟨hb, ao, cap, rfl, h1, h2, h3, h4⟩ := h
  have hlen : (bc (l.take n)).length = n := by rw [bc_len, List.length_take]; omega
  rw [bc_len] at h1
  refine ⟨ao, cap, by rw [bc_len], h2, h1, hb.take _, ao, cap, by rw [hlen], by rw [hlen]; omega, h2, fun e => ?_, fun a ha j q hq => ?_⟩
  · obtain ⟨e1, e2⟩ := h3 e
    have e3 : l = [] := by simpa [bc] using e1
    subst e3
    simp [bc, e2]
  · have hj : j < n := by
      rcases Nat.lt_or_ge j n with h | h
      · exact h
      · rw [List.getElem?_eq_none (by omega)] at hq; cases hq
    refine h4 a ha j q ?_
    rw [bc_at] at hq ⊢
    rw [List.getElem?_take, if_pos hj] at hq
    exact hq
theorem run_cutD (ao : Option Addr) (n c m : Nat) (hm : m ≤ n) (hc : n ≤ c) (u : World) : (Instr.slice 22 (.slice ao n c) none (some (.int .i64 (m : Int))) none).run Try.prog u = .ok (.slice ao m c) u := by
  have ht : Try.prog.underlying 22 = some (.slice (Try.prog.elem 22)) := by kernel_rfl
  rw [run_slice_h u 22 ao n c ht .i64 (m : Int) (by omega) (by omega)]
  have hs : (sizeOf (Try.prog.elem 22)).run Try.prog u = .ok 1 u := by
    rw [show Try.prog.elem 22 = 5 by kernel_rfl]
    obtain ⟨i0, hi, hz0, hz1, hz2⟩ := info_parts Try.info5
    simp [sizeOf, typeInfo, hi, hz1]
  rw [hs]
  have e : (ao.map fun x => x.add 0) = ao := by cases ao <;> simp [Addr.add]
  simp only [Result.andThen, sliced, Int.toNat_natCast, Nat.mul_one, Nat.sub_zero, e, ite_self]

theorem ownB_len (a : Option Addr) (n c m k : Nat) : (Value.slice a n c).ownBlock = (Value.slice a m k).ownBlock := by cases a <;> rfl
theorem Dsk.set {w w1 w2 : World} {b : Nat} {v v' : Value} {d : PDk} {xs : List Int} (h : Dsk w b v d) (happ : App w 5 v w1 v' (bc xs)) (hr : Row w2 b 67 (dkc v' d)) (hg : w1.grownBy w2 (some b)) (hok : OkD { d with l := xs }) :
    Dsk w2 b v' { d with l := xs } ∧ Gr2 w w2 b v ∧ Spt w v v' := by
  have hrw := h.row.grown happ.grown h.ne
  have hn : v'.ownBlock ≠ some b := own_row_nD hrw happ.own (by decide)
  exact ⟨⟨hr, happ.own.grown hg (fun k hk => by cases hk; exact hn), hok⟩, (Gr2.ofv happ.grown).trans happ.spot (Gr2.of hg), happ.spot⟩
theorem Dsk.setC {w w1 w2 : World} {b : Nat} {v v' : Value} {d : PDk} {xs : List Int} (h : Dsk w b v d) (ho : Own w1 5 v' (bc xs)) (hf : Fr w.heap.size v') (hb : Below w.heap.size w w1) (hr : Row w2 b 67 (dkc v' d)) (hg : w1.grownBy w2 (some b)) (hok : OkD { d with l := xs }) :
    Dsk w2 b v' { d with l := xs } ∧ Gr2 w w2 b v ∧ Spt w v v' := by
  have hn : v'.ownBlock ≠ some b := own_row_nD (h.row.below hb) ho (by decide)
  exact ⟨⟨hr, ho.grown hg (fun k hk => by cases hk; exact hn), hok⟩, (Gr2.bel hb).trans (.inr hf) (Gr2.of hg), .inr hf⟩

set_option maxRecDepth 10000 in
set_option maxHeartbeats 1000000 in
theorem appendD_any (w : World) (b : Nat) (v u : Value) (d : PDk) (x : List Int) (h : Dsk w b v d) (hu : Rd w u x) (hub : x ≠ [] → u.ownBlock ≠ some b) (ha : x ≠ [] → ∀ k, v.ownBlock = some k → u.ownBlock ≠ some k) (hl : x.length ≤ 140737488355328) :
    Calls Try.prog 12 #[.pointer (some ⟨b, 0, none⟩), u] w fun e w' => ∃ v', e = .returned (.int .i64 (apD d x).2) ∧ Dsk w' b v' (apD d x).1 ∧ Gr2 w w' b v ∧ Spt w v v' := by
  have hx := hu.1
  have hne := h.ne
  have hdl := h.ok.len
  have hap := h.ok.ap hx
  have c0 := h.row.cell (j := 0) rfl
  obtain ⟨av, cv, hav, hcv⟩ := h.own.form
  rw [bc_len] at hav
  obtain ⟨au, cu, hau, hcu⟩ := hu.form
  have hn := refusal_any w b v d (d.l.length + x.length) h
  have hbr := breaks_any w b v d h
  obtain ⟨nl, hnl⟩ : ∃ nl, nl = d.l.length := ⟨_, rfl⟩
  obtain ⟨nx, hnx⟩ : ∃ nx, nx = x.length := ⟨_, rfl⟩
  by_cases h0 : noD d (d.l.length + x.length) = 0
  · have hno := noD_ok h0
    rw [h0] at hn
    have hr1 := h.ok.r1
    have hsum : d.l.length + x.length ≤ 4194304 := by omega
    have HS := (show Hid (d.l.length + x.length ≤ 140737488355328) by show _ ≤ _; omega)
    have HN := (show Hid (∀ _ : Unit, Calls Try.prog 32 #[.pointer (some ⟨b, 0, none⟩), .int .i64 (nl + nx)] w fun e w' => e = .returned (.int .i64 0) ∧ w' = w) from fun _ => by rw [hnl, hnx]; exact hn)
    clear hno hn hr1
    cases hb : brD d with
    | true =>
      have hA : apD d x = (diD { d with l := d.l ++ x.take (wit d.te x.length).toNat }, 115) := by unfold apD; rw [if_neg (by simp [h0]), if_pos hb]
      rw [hA] at hap ⊢
      have hco := co_br hb
      rw [hco, hb] at hbr
      have hwd := wit_bd (n := d.te) (m := (x.length : Int)) (by omega)
      obtain ⟨q, hq⟩ : ∃ q : Nat, wit d.te x.length = (q : Int) := ⟨_, (Int.toNat_of_nonneg hwd.1).symm⟩
      rw [hq, Int.toNat_natCast] at hap ⊢
      have hqx : q ≤ nx := by omega
      obtain ⟨ar, cr, har, hcr, hcr2, hfront⟩ := hu.front q (by omega)
      rw [hau] at har
      injection har with ha1 ha2 ha3
      subst ha1 ha3
      have hcx : nx ≤ cu := by omega
      have hcut := run_cutD au nx cu q (by omega) hcx
      have hok2 : OkD { d with l := d.l ++ x.take q } := ⟨h.ok.byt.app (hx.take _), by simp only [List.length_append, List.length_take]; omega, h.ok.r0, h.ok.r1, h.ok.w0, h.ok.w1⟩
      have HQ := (show Hid (∀ u, Calls Try.prog 34 #[.int .i64 d.te, .int .i64 nx] u fun e w' => e = .returned (.int .i64 q) ∧ w' = u) from fun u => by
        have := within_any u d.te nx
        rw [hnx, hq] at this
        rw [hnx]
        exact this)
      have HSQ := (show Hid (d.l.length + (x.take q).length ≤ 140737488355328) by show _ ≤ _; rw [List.length_take]; omega)
      have HF := (show Hid (∀ w1, w.grownBy w1 (some b) → Rd w1 (.slice au q cu) (x.take q)) from fun w1 hg => hfront.grown hg (fun hne k hk => by cases hk; intro e; refine hub (fun e2 => hne (by rw [e2]; simp)) ?_; rw [hau, ownB_len _ _ _ q cu]; exact e))
      have HAP := (show Hid ((x.take q) ≠ [] → ∀ k, v.ownBlock = some k → (Value.slice au q cu).ownBlock ≠ some k) from fun hxx k hk e => ha (fun e2 => hxx (by rw [e2]; simp)) k hk (by rw [hau, ownB_len _ _ _ q cu]; exact e))
      have HB := (show Hid (∀ _ : Unit, Calls Try.prog 33 #[.pointer (some ⟨b, 0, none⟩)] w fun e w' => e = .returned (.bool true) ∧ Dsk w' b v d ∧ w.grownBy w' (some b)) from fun _ => hbr)
      rw [← hnl] at hav
      rw [← hnx] at hau
      have hbl : (nl : Int) ≤ 4194304 := by omega
      have hbx : (nx : Int) ≤ 4194304 := by omega
      clear hA hbr hq hwd hb hco h0 ha2 hnl hnx hsum hfront hcr hcr2
      subst hav hau
      go_enter Try.func12, Try.ntmps12
      go_wp2_with (first
        | (go_at_call 32; refine (HN.out ()).mono ?_; rintro e w ⟨rfl, rfl⟩)
        | (go_at_call 33; refine (HB.out ()).mono ?_; rintro e w1 ⟨rfl, hd1, hg1⟩))
      have c0 := hd1.row.cell (j := 0) rfl
      have c5 := hd1.row.cell (j := 5) rfl
      have z0 := hd1.row.frozen 0
      have hF1 := HF.out w1 hg1
      have hD : Dsk w1.drew b _ d := ⟨hd1.row.drew, hd1.own.drew, hd1.ok⟩
      have hG : w.grownBy w1.drew (some b) := grown_to_drew hg1
      have hF : Rd w1.drew _ _ := hF1.drew
      go_region_law (first
        | (refine step_bytes (by rfl) _ _ (by rfl) (.slice av nl cv) d.l (by rfl) hD.own (.slice au q cu) (x.take q) (by rfl) hF.2 HSQ.out ?_; intro v2 w2 happ; obtain ⟨a2, c2, e2, hc2⟩ := happ.own.form; subst e2; have hrw := hD.row.grown happ.grown hD.ne; have d0 := hrw.cell (j := 0) rfl; have z2 := hrw.frozen 0)
        | (go_simp; go_at_call 34; refine (HQ.out _).mono ?_; rintro e w0 ⟨rfl, rfl⟩))
      all_goals (
        obtain ⟨hD2, hG2, hS2⟩ := hD.set happ (hrw.set 0 _) (grown_set _ b 0 _) hok2
        have hD3 := (Gr2.of (v := .slice av nl cv) hG).trans (.inl rfl) hG2
        generalize w2.setCell ⟨b, 0, none⟩ (.slice a2 (bc (d.l ++ x.take q)).length c2) = w3 at hD2 hG2 hD3 ⊢
        have hS3 : Spt w (.slice av nl cv) (.slice a2 (bc (d.l ++ x.take q)).length c2) := hS2.imp id (fun h => h.mono hG.size)
        clear hrw d0 z2 happ hF1 hD hG hF c0 c5 z0 hG2 hS2
        go_wp2_with (go_at_call 35; refine (die_any w3 b _ _ hD2).mono ?_; rintro e w4 ⟨rfl, hd4, hg4⟩)
        go_ret
        exact ⟨_, rfl, hd4, hD3.trans hS3 (Gr2.of hg4), hS3⟩)
    | false =>
      have hA : apD d x = ({ coD d with l := d.l ++ x }, 0) := by unfold apD; rw [if_neg (by simp [h0]), if_neg (by simp [hb])]
      rw [hA] at hap ⊢
      rw [hb] at hbr
      have HB := (show Hid (∀ _ : Unit, Calls Try.prog 33 #[.pointer (some ⟨b, 0, none⟩)] w fun e w' => e = .returned (.bool false) ∧ Dsk w' b v (coD d) ∧ w.grownBy w' (some b)) from fun _ => hbr)
      have hcl := co_l d
      have HCL := (show Hid ((coD d).l = d.l) from hcl)
      have HF := (show Hid (∀ w1, w.grownBy w1 (some b) → Rd w1 (.slice au nx cu) x) from fun w1 hg => hu.grown hg (fun hne k hk => by cases hk; exact hub hne) |> (by rw [hnx, ← hau]; exact ·))
      have hbl : (nl : Int) ≤ 4194304 := by omega
      have hbx : (nx : Int) ≤ 4194304 := by omega
      rw [← hnl] at hav
      rw [← hnx] at hau
      clear hA hbr hb h0 hnl hnx hsum
      subst hav hau
      go_enter Try.func12, Try.ntmps12
      go_upto_region 7 with (first
        | (go_at_call 32; refine (HN.out ()).mono ?_; rintro e w ⟨rfl, rfl⟩)
        | (go_at_call 33; refine (HB.out ()).mono ?_; rintro e w1 ⟨rfl, hd1, hg1⟩))
      have c0 := hd1.row.cell (j := 0) rfl
      have hF1 := HF.out w1 hg1
      have hown1 : Own w1 5 (.slice av nl cv) (bc d.l) := by have := hd1.own; rwa [HCL.out] at this
      go_wp2_with (first
        | (at_builtin; refine app_bytes rfl _ _ rfl _ d.l rfl hown1 _ x rfl hF1.2 HS.out ?_; intro v2 w2 happ; have hrw := hd1.row.grown happ.grown hd1.ne)
        | (refine wl_set rfl _ _ _ rfl b 0 _ rfl rfl _ _ hrw (show 0 < 6 by decide) (by kernel_rfl) (own1 happ.own) ?_; intro w3 hr3 hg3))
      go_ret
      obtain ⟨hD2, hG2, hS2⟩ := hd1.set happ hr3.out hg3 hap
      exact ⟨_, rfl, hD2, (Gr2.of hg1).trans (.inl rfl) hG2, hS2.imp id (fun h => h.mono hg1.size)⟩
  · have hA : apD d x = (d, noD d (d.l.length + x.length)) := by unfold apD; rw [if_pos (by simpa using h0)]
    rw [hA]
    obtain ⟨E, hE⟩ : ∃ E, E = noD d (d.l.length + x.length) := ⟨_, rfl⟩
    rw [← hE] at hn h0 ⊢
    have hE0 : (E != 0) = true := by simpa using h0
    have HN := (show Hid (∀ _ : Unit, Calls Try.prog 32 #[.pointer (some ⟨b, 0, none⟩), .int .i64 (nl + nx)] w fun e w' => e = .returned (.int .i64 E) ∧ w' = w) from fun _ => by rw [hnl, hnx]; exact hn)
    have hbl : (nl : Int) ≤ 4194304 := by omega
    have hbx : (nx : Int) ≤ 140737488355328 := by omega
    rw [← hnl] at hav
    rw [← hnx] at hau
    clear hA hn hE hnl hnx h0 hbr
    subst hav hau
    go_enter Try.func12, Try.ntmps12
    go_wp2_with (go_at_call 32; refine (HN.out ()).mono ?_; rintro e w ⟨rfl, rfl⟩)
    go_ret
    exact ⟨_, rfl, h, Gr2.refl _ _ _, .inl rfl⟩

set_option maxRecDepth 10000 in
set_option maxHeartbeats 1000000 in
theorem replaceD_any (w : World) (b : Nat) (v u : Value) (d : PDk) (x : List Int) (h : Dsk w b v d) (hu : Rd w u x) (hub : x ≠ [] → u.ownBlock ≠ some b) (hl : x.length ≤ 140737488355328) :
    Calls Try.prog 37 #[.pointer (some ⟨b, 0, none⟩), u] w fun e w' => ∃ v', e = .returned (.int .i64 (reD d x).2) ∧ Dsk w' b v' (reD d x).1 ∧ Gr2 w w' b v ∧ Spt w v v' := by
  have hx := hu.1
  have hap := h.ok.re hx
  obtain ⟨au, cu, hau, hcu⟩ := hu.form
  have hn := refusal_any w b v d x.length h
  have hbr := breaks_any w b v d h
  have hrdu := hu
  obtain ⟨nx, hnx⟩ : ∃ nx, nx = x.length := ⟨_, rfl⟩
  have hbx : (nx : Int) ≤ 140737488355328 := by omega
  have HL := (show Hid (x.length ≤ 140737488355328) from hl)
  rw [← hnx] at hau hn
  subst hau
  by_cases h0 : noD d x.length = 0
  · rw [hnx, h0, ← hnx] at hn
    have HN := (show Hid (∀ _ : Unit, Calls Try.prog 32 #[.pointer (some ⟨b, 0, none⟩), .int .i64 nx] w fun e w' => e = .returned (.int .i64 0) ∧ w' = w) from fun _ => hn)
    cases hb : brD d with
    | true =>
      have hA : reD d x = (diD d, 115) := by unfold reD; rw [if_neg (by simp [h0]), if_pos hb]
      rw [hA]
      rw [co_br hb, hb] at hbr
      have HB := (show Hid (∀ _ : Unit, Calls Try.prog 33 #[.pointer (some ⟨b, 0, none⟩)] w fun e w' => e = .returned (.bool true) ∧ Dsk w' b v d ∧ w.grownBy w' (some b)) from fun _ => hbr)
      clear hA hn hbr hb h0 hnx hl
      go_enter Try.func37, Try.ntmps37
      go_wp2_with (first
        | (go_at_call 32; refine (HN.out ()).mono ?_; rintro e w ⟨rfl, rfl⟩)
        | (go_at_call 35; refine (die_any w1 b _ _ hd1).mono ?_; rintro e w4 ⟨rfl, hd4, hg4⟩)
        | (go_at_call 33; refine (HB.out ()).mono ?_; rintro e w1 ⟨rfl, hd1, hg1⟩))
      go_ret
      exact ⟨_, rfl, hd4, Gr2.of (grown_trans hg1 hg4 (.inl rfl)), .inl rfl⟩
    | false =>
      have hA : reD d x = ({ coD d with l := x }, 0) := by unfold reD; rw [if_neg (by simp [h0]), if_neg (by simp [hb])]
      rw [hA] at hap ⊢
      rw [hb] at hbr
      have HB := (show Hid (∀ _ : Unit, Calls Try.prog 33 #[.pointer (some ⟨b, 0, none⟩)] w fun e w' => e = .returned (.bool false) ∧ Dsk w' b v (coD d) ∧ w.grownBy w' (some b)) from fun _ => hbr)
      have HC := (show Hid (∀ w1, w.grownBy w1 (some b) → Calls Try.prog 42 #[.slice au nx cu] w1 fun e w' => ∃ v', e = .returned v' ∧ Own w' 5 v' (bc x) ∧ Fr w1.heap.size v' ∧ Below w1.heap.size w1 w') from fun w1 hg => clone_own w1 _ x (hrdu.grown hg (fun hne k hk => by cases hk; exact hub hne)) HL.out)
      clear hA hn hbr hb h0 hnx hl
      go_enter Try.func37, Try.ntmps37
      go_wp2_with (first
        | (go_at_call 32; refine (HN.out ()).mono ?_; rintro e w ⟨rfl, rfl⟩)
        | (go_at_call 33; refine (HB.out ()).mono ?_; rintro e w1 ⟨rfl, hd1, hg1⟩)
        | (go_at_call 42; refine (HC.out w1 hg1).mono ?_; rintro e w2 ⟨v2, rfl, ho2, hf2, hb2⟩; have hrw := hd1.row.below hb2)
        | (refine wl_set rfl _ _ _ rfl b 0 _ rfl rfl _ _ hrw (show 0 < 6 by decide) (by kernel_rfl) (own1 ho2) ?_; intro w3 hr3 hg3))
      go_ret
      obtain ⟨hD2, hG2, hS2⟩ := hd1.setC ho2 hf2 hb2 hr3.out hg3 hap
      exact ⟨_, rfl, hD2, (Gr2.of hg1).trans (.inl rfl) hG2, hS2.imp id (fun h => h.mono hg1.size)⟩
  · have hA : reD d x = (d, noD d x.length) := by unfold reD; rw [if_pos (by simpa using h0)]
    rw [hA]
    obtain ⟨E, hE⟩ : ∃ E, E = noD d x.length := ⟨_, rfl⟩
    rw [hnx, ← hE, ← hnx] at hn
    rw [← hE] at h0 ⊢
    have hE0 : (E != 0) = true := by simpa using h0
    have HN := (show Hid (∀ _ : Unit, Calls Try.prog 32 #[.pointer (some ⟨b, 0, none⟩), .int .i64 nx] w fun e w' => e = .returned (.int .i64 E) ∧ w' = w) from fun _ => hn)
    clear hA hn hE hnx h0 hbr hl
    go_enter Try.func37, Try.ntmps37
    go_wp2_with (go_at_call 32; refine (HN.out ()).mono ?_; rintro e w ⟨rfl, rfl⟩)
    go_ret
    exact ⟨_, rfl, h, Gr2.refl _ _ _, .inl rfl⟩
end Go.Proofs.Yteafgdidjdfiiaa
