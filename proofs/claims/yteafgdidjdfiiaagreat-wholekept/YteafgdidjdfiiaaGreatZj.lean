/- slices.Insert of one lease. -/
import Derived.Test.YteafgdidjdfiiaaGreatZi
import Derived.Test.YteafgdidjdfiiaaGreatKj
set_option linter.unusedVariables false
set_option linter.unusedSimpArgs false
namespace Go.Proofs.YteafgdidjdfiiaaGreat
open Go.RowKit Oct Kvl

theorem run_overS (w : World) (g vb i lb cb : Nat) (hne : vb ≠ g) (cur r : List Value) (hr : r.length = 3) (hg : Row w g 75 cur) (hc : cur ≠ []) (hv : Row w vb 75 r) :
    (callFunc 122 #[.slice (some ⟨vb, 0, none⟩) 1 1, .slice (some ⟨g, i, none⟩) lb cb]).run Tryz.prog w = .ok (.value (.bool false)) w := by
  have hz : ∀ w, (Go.sizeOf 75).run Tryz.prog w = .ok 3 w := fun w => by
    obtain ⟨i0, hi, hz0, hz1, hz2⟩ := info_parts Tryz.infL
    simp [sizeOf, typeInfo, hi, hz1]
  have s1 : w.shape? vb = some (75, 3) := by
    unfold Row at hv
    simp [World.shape?, hv, hr]
  have s2 : w.shape? g = some (75, cur.length) := by
    unfold Row at hg
    simp [World.shape?, hg]
  rw [run_callFunc_extern Tryz.func122 (by kernel_rfl) (by kernel_rfl) (by kernel_rfl) (e := Extern.SlicesOverlaps.overlaps #[24, 24] #[4]) (by kernel_rfl),
    Lib.run_overlaps_apart w 24 4 75 Tryz.underlying24 3 hz ⟨vb, 0, none⟩ ⟨g, i, none⟩ 1 1 lb cb hne 75 75 3 cur.length s1 s2 (fun e => hc (List.eq_nil_of_length_eq_zero e)) (hv.frozen 0) (hv.frozen 3)]
  rfl
set_option maxHeartbeats 1000000 in
set_option maxRecDepth 100000 in
/-- slices.Insert, ahead of the end, where there is room. -/
theorem insertS_room (w : World) (g cap n i vb : Nat) (cur L r : List Value) (hrow : Row w g 75 cur) (hcl : cur.length = cap * 3) (hL : L.length = n * 3) (ht : cur.take (n * 3) = L) (hi : i < n) (hroom : n + 1 ≤ cap) (hcap : cap ≤ maxLen) (hn : n ≤ 64) (h1 : ∀ u ∈ L, u.oneCell' = true)
    (hne : vb ≠ g) (hv : Row w vb 75 r) (hr : r.length = 3) (h1r : ∀ u ∈ r, u.oneCell' = true) :
    Calls Tryz.prog 115 #[.slice (some ⟨g, 0, none⟩) n cap, .int .i64 (i : Int), .slice (some ⟨vb, 0, none⟩) 1 1] w fun e w' =>
      e = .returned (.slice (some ⟨g, 0, none⟩) (n + 1) cap) ∧ w.grownBy w' (some g) ∧ ∃ cur', Row w' g 75 cur' ∧ cur'.length = cap * 3 ∧ cur'.take ((n + 1) * 3) = L.take (i * 3) ++ (r ++ L.drop (i * 3)) := by
  have hov := fun lb cb => run_overS w g vb ((i + 1) * 3) lb cb hne cur r hr hrow (fun e => by rw [e] at hcl; simp at hcl; omega) hv
  have hdl : (L.drop (i * 3)).length = (n - i) * 3 := by rw [List.length_drop, hL]; omega
  have hsrc : ∀ j v, (L.drop (i * 3))[j]? = some v → w.cell? ((⟨g, i * 3, none⟩ : Addr).add j) = some v := fun j v hj => by
    rw [Addr.add_mid]
    rw [List.getElem?_drop] at hj
    exact hrow.atL ht hj
  have hfit : (i + 1) * 3 + (L.drop (i * 3)).length ≤ cur.length := by omega
  have hfin : (splice (splice cur ((i + 1) * 3) (L.drop (i * 3))) (i * 3) r).take ((n + 1) * 3) = L.take (i * 3) ++ (r ++ L.drop (i * 3)) := by
    have := spl1 cur (L.drop (i * 3)) r (i * 3) (by omega)
    rw [hr, hdl, show i * 3 + 3 + (n - i) * 3 = (n + 1) * 3 by omega, show i * 3 + 3 = (i + 1) * 3 by omega] at this
    rw [this, ← ht, List.take_take, Nat.min_eq_left (by omega)]
  have HI := (show Hid _ from hfin)
  have HR := (show Hid (Row w g 75 cur) from hrow)
  have HV := (show Hid (Row w vb 75 r) from hv)
  have HS := (show Hid (∀ j v, (L.drop (i * 3))[j]? = some v → w.cell? ((⟨g, i * 3, none⟩ : Addr).add j) = some v) from hsrc)
  have HF := (show Hid ((i + 1) * 3 + (L.drop (i * 3)).length ≤ cur.length) from hfit)
  have HL := (show Hid ((L.drop (i * 3)).length = (n - i) * 3) from hdl)
  have HO := (show Hid (∀ u ∈ L.drop (i * 3), u.oneCell' = true) from fun u hu => h1 u (List.mem_of_mem_drop hu))
  have HC := (show Hid (cur.length = cap * 3) from hcl)
  have HRL := (show Hid (r.length = 3) from hr)
  clear hrow hv hsrc hfit hdl h1 hcl ht hfin hL hr
  generalize L.drop (i * 3) = D at *
  have hz2 : ((i : Int) == (n : Int)) = false := by simp; omega
  have hb2 : ¬ (cap = i + 1) := by omega
  have hb4 : ¬ (cap = i) := by omega
  have hb0 : ¬ (cap = 0) := by omega
  have hb1 : (0 : Int) ≤ (i : Int) + 1 := by omega
  have hb3 : (i : Int) ≤ (n : Int) + 1 := by omega
  have hb5 : (i : Int) ≤ (n : Int) := by omega
  have hb6 : (i : Int) + 1 ≤ (n : Int) + 1 := by omega
  have hw1 : IntKind.i64.wrap ((i : Int) + 1) = (i : Int) + 1 := by rw [IntKind.wrap_i64]; omega
  have hin : i ≤ n := by omega
  have htn : ((i : Int) + 1).toNat = i + 1 := by omega
  have hcm : (cap : Int) ≤ 9223372036854775807 := by unfold maxLen at hcap; omega
  go_enter Tryz.func115, Tryz.ntmps115
  go_wp2_with (simp only [hov])
  clear hov
  go_region_law ((refine step_copy_k (by rfl) _ _ _ _ (by rfl) 75 3 Tryz.underlying24 Tryz.sizL (some ⟨g, (i + 1) * 3, none⟩) (some ⟨g, i * 3, none⟩) (n - i) (cap - (i + 1)) (n + 1 - i) (cap - i) (by simp [Act.eval, Act.put]) (by simp [Act.eval, Act.put]) g ((i + 1) * 3) cur 75 HR.out D (by rw [HL.out]; congr 1; simp only [Nat.min_def]; split <;> omega) (fun _ => ⟨rfl, _, rfl, HS.out⟩) (by decide) HF.out HO.out (n - i) (by simp only [Nat.min_def]; split <;> omega) ?_; intro w2 hr2 hg2))
  have hv2 : Row w2 vb 75 r := HV.out.grown (grown_drew hg2) (fun e => hne (Option.some.inj e).symm)
  have HS2 := (show Hid (∀ j v, r[j]? = some v → w2.cell? ((⟨vb, 0, none⟩ : Addr).add j) = some v) from fun j v hj => by
    rw [Addr.add_mid, Nat.zero_add]
    exact hv2.cell hj)
  have HF2 := (show Hid (i * 3 + r.length ≤ (splice cur ((i + 1) * 3) D).length) from by
    show i * 3 + r.length ≤ (splice cur ((i + 1) * 3) D).length
    rw [length_splice _ _ _ HF.out, HC.out, HRL.out]; omega)
  have HG2 := (show Hid (w.grownBy w2 (some g)) from grown_drew hg2)
  clear hv2 hg2
  go_wp2_with (refine wl_copy_k (by rfl) _ _ _ _ (by rfl) 75 3 Tryz.underlying24 Tryz.sizL (some ⟨g, i * 3, none⟩) (some ⟨vb, 0, none⟩) (n + 1 - i) (cap - i) 1 1 (by simp [Act.eval]) (by simp [Act.eval]) g (i * 3) (splice cur ((i + 1) * 3) D) 75 hr2.out r (by rw [HRL.out]; simp only [Nat.min_def]; split <;> omega) (fun _ => ⟨rfl, _, rfl, HS2.out⟩) (by decide) HF2.out h1r 1 (by simp only [Nat.min_def]; split <;> omega) ?_; intro w3 hr3 hg3)
  go_ret
  refine ⟨rfl, grown_trans HG2.out hg3 (.inl rfl), _, hr3.out, ?_, HI.out⟩
  rw [length_splice _ _ _ HF2.out, length_splice _ _ _ HF.out, HC.out]

set_option maxHeartbeats 1000000 in
set_option maxRecDepth 100000 in
/-- slices.Insert, ahead of the end, where there is no room. -/
theorem insertS_grow (w : World) (g cap n i vb : Nat) (cur L r : List Value) (hrow : Row w g 75 cur) (hcl : cur.length = cap * 3) (hL : L.length = n * 3) (ht : cur.take (n * 3) = L) (hi : i < n) (hnc : n ≤ cap) (hroom : cap < n + 1) (hn : n ≤ 64) (h1 : ∀ u ∈ L, u.oneCell' = true)
    (hv : Row w vb 75 r) (hr : r.length = 3) (h1r : ∀ u ∈ r, u.oneCell' = true) :
    Calls Tryz.prog 115 #[.slice (some ⟨g, 0, none⟩) n cap, .int .i64 (i : Int), .slice (some ⟨vb, 0, none⟩) 1 1] w fun e w' =>
      ∃ NC, e = .returned (.slice (some ⟨w.heap.size, 0, none⟩) (n + 1) NC) ∧ n + 1 ≤ NC ∧ NC ≤ maxLen ∧ Below w.heap.size w w' ∧ ∃ cur', Row w' w.heap.size 75 cur' ∧ cur'.length = NC * 3 ∧ cur'.take ((n + 1) * 3) = L.take (i * 3) ++ (r ++ L.drop (i * 3)) := by
  obtain rfl : cap = n := by omega
  obtain ⟨i0, hi0, hz0, hzs, hzb⟩ := info_parts Tryz.infL
  have hdl : (L.drop (i * 3)).length = (cap - i) * 3 := by rw [List.length_drop, hL]; omega
  have HR := (show Hid (Row w g 75 cur) from hrow)
  have HV := (show Hid (Row w vb 75 r) from hv)
  have HL := (show Hid ((L.drop (i * 3)).length = (cap - i) * 3) from hdl)
  have HO := (show Hid (∀ u ∈ L.drop (i * 3), u.oneCell' = true) from fun u hu => h1 u (List.mem_of_mem_drop hu))
  have HT := (show Hid (cur.take (cap * 3) = L) from ht)
  have HRL := (show Hid (r.length = 3) from hr)
  have HFC := (show Hid (i * 3 ≤ cur.length) by show i * 3 ≤ _; omega)
  clear hrow hv hdl h1 hcl ht hL hr
  have hz2 : ((i : Int) == (cap : Int)) = false := by simp; omega
  have hb4 : ¬ (cap = i) := by omega
  have hb5 : (i : Int) ≤ (cap : Int) := by omega
  have hin : i ≤ cap := by omega
  have hgt : (cap : Int) < (cap : Int) + 1 := by omega
  go_enter Tryz.func115, Tryz.ntmps115
  have he : i + (cap + 1 - i) = cap + 1 := by omega
  have hxi : (Value.int .i64 ((cap : Int) + 1 - (i : Int))) = .int .i64 ((cap + 1 - i : Nat) : Int) := by congr 1; omega
  have HS0 := (show Hid (∀ u, Below w.heap.size w u → ∀ j v, (L.drop (i * 3))[j]? = some v → u.cell? ((⟨g, i * 3, none⟩ : Addr).add j) = some v) from fun u hu j v hj => by
    rw [Addr.add_mid]
    rw [List.getElem?_drop] at hj
    exact (HR.out.below hu).atL HT.out hj)
  have hvne : vb ≠ w.heap.size := fun e => by have := HV.out.lt; omega
  have hgne : g ≠ w.heap.size := fun e => by have := HR.out.lt; omega
  have HTT := (show Hid (cur.take (i * 3) = L.take (i * 3)) by show _ = _; rw [← HT.out, List.take_take, Nat.min_eq_left (by omega)])
  go_wp2_with (first
    | (at_builtin; refine wl_app_zeros rfl _ _ _ _ rfl 75 i0 _ 3 40 Tryz.underlying24 Tryz.underlying3 hi0 hz0 hzs hzb rfl (by decide) (by decide) g i cap rfl cur HR.out HFC.out (cap + 1 - i) (by omega) hxi (by omega) (by omega) ?_; intro NC row w2 hr2 hq2 hn2 hm2 hb2; have hn2' : cap + 1 ≤ NC := (by omega); have hnc1 : ¬ (NC = i) := (by omega); have hnc2 : ¬ (NC = i + 1) := (by omega); have HS2 := (show Hid (∀ j v, r[j]? = some v → w2.cell? ((⟨vb, 0, none⟩ : Addr).add j) = some v) from fun j v hj => (by rw [Addr.add_mid, Nat.zero_add]; exact (HV.out.below hb2).cell hj)); have HF2 := (show Hid (i * 3 + r.length ≤ row.length) by show _ ≤ _; rw [hq2.out.1, HRL.out]; omega))
    | (refine wl_copy_k (by rfl) _ _ _ _ (by rfl) 75 3 Tryz.underlying24 Tryz.sizL (some ⟨w.heap.size, i * 3, none⟩) (some ⟨vb, 0, none⟩) (cap + 1 - i) (NC - i) 1 1 (by simp [Act.eval]) (by simp [Act.eval]) w.heap.size (i * 3) row 75 hr2.out r (by rw [HRL.out]; simp only [Nat.min_def]; split <;> omega) (fun _ => ⟨rfl, _, rfl, HS2.out⟩) (by decide) HF2.out h1r 1 (by simp only [Nat.min_def]; split <;> omega) ?_; intro w3 hr3 hg3))
  have hb3 : Below w.heap.size w w3 := hb2.trans (grown_below hg3 hb2.size (fun k hk => by cases hk; exact Nat.le_refl _))
  have HB3 := (show Hid (Below w.heap.size w w3) from hb3)
  have HS3 := (show Hid (∀ j v, (L.drop (i * 3))[j]? = some v → w3.cell? ((⟨g, i * 3, none⟩ : Addr).add j) = some v) from HS0.out w3 hb3)
  have HF3 := (show Hid ((i + 1) * 3 + (L.drop (i * 3)).length ≤ (splice row (i * 3) r).length) by
    show _ ≤ _
    rw [length_splice _ _ _ HF2.out, hq2.out.1, HL.out]; omega)
  have HI := (show Hid ((splice (splice row (i * 3) r) ((i + 1) * 3) (L.drop (i * 3))).take ((cap + 1) * 3) = L.take (i * 3) ++ (r ++ L.drop (i * 3))) by
    show _ = _
    have := spl2 row (L.drop (i * 3)) r (i * 3) (by rw [HRL.out, HL.out, hq2.out.1]; omega)
    rw [HRL.out, HL.out, show i * 3 + 3 + (cap - i) * 3 = (cap + 1) * 3 by omega, show i * 3 + 3 = (i + 1) * 3 by omega] at this
    rw [this, hq2.out.2, HTT.out])
  have hb1 : (0 : Int) ≤ (i : Int) + 1 := by omega
  have hb6 : (i : Int) + 1 ≤ (cap : Int) + 1 := by omega
  have hw1 : IntKind.i64.wrap ((i : Int) + 1) = (i : Int) + 1 := by rw [IntKind.wrap_i64]; omega
  have htn : ((i : Int) + 1).toNat = i + 1 := by omega
  have hcm : (NC : Int) ≤ 9223372036854775807 := by unfold maxLen at hm2; omega
  clear hb3 hg3 hb2 HS2 HS0
  generalize hDD : L.drop (i * 3) = D at *
  have HDD := (show Hid (L.drop (i * 3) = D) from hDD)
  clear hDD
  go_region_law ((refine step_copy_k (by rfl) _ _ _ _ (by rfl) 75 3 Tryz.underlying24 Tryz.sizL (some ⟨w.heap.size, (i + 1) * 3, none⟩) (some ⟨g, i * 3, none⟩) (cap - i) (NC - (i + 1)) (cap - i) (cap - i) (by simp [Act.eval, Act.put]) (by simp [Act.eval, Act.put]) w.heap.size ((i + 1) * 3) (splice row (i * 3) r) 75 hr3.out D (by rw [HL.out]; congr 1; simp only [Nat.min_def]; split <;> omega) (fun _ => ⟨rfl, _, rfl, HS3.out⟩) (by decide) HF3.out HO.out (cap - i) (by simp only [Nat.min_def]; split <;> omega) ?_; intro w4 hr4 hg4))
  have hg4 := grown_drew hg4
  have hB4 := HB3.out.trans (grown_below hg4 HB3.out.size (fun k hk => by cases hk; exact Nat.le_refl _))
  go_wp2_with fail
  go_ret
  refine ⟨NC, rfl, hn2', hm2, hB4, _, hr4.out, ?_, by rw [HDD.out]; exact HI.out⟩
  rw [length_splice _ _ _ HF3.out, length_splice _ _ _ HF2.out, hq2.out.1]

set_option maxHeartbeats 1000000 in
set_option maxRecDepth 100000 in
/-- slices.Insert, at the end. -/
theorem insertS_end (w : World) (v : Value) (B : Nat) (ys : List PEnt) (h : LB OLea 75 3 B w v ys) (hB : B ≤ w.heap.size) (hn : ys.length ≤ 64) (vb : Nat) (r : List Value) (hv : Row w vb 75 r) (y : PEnt) (hr : OLea (fun b => B ≤ b ∧ v.ownBlock ≠ some b) w r y) :
    Calls Tryz.prog 115 #[v, .int .i64 (ys.length : Int), .slice (some ⟨vb, 0, none⟩) 1 1] w fun e w' => ∃ v', e = .returned v' ∧ LB OLea 75 3 B w' v' (ys ++ [y]) ∧ w.grownBy w' v.ownBlock := by
  obtain ⟨i0, hi0, hz0, hzs, hzb⟩ := info_parts Tryz.infL
  obtain ⟨rows, h0, hown, hfr, hall⟩ := h
  have hlen := hall.len
  have hrl : r.length = 3 := by obtain ⟨a, p, q, rfl, _⟩ := hr; rfl
  have h1r := one_RS hr.lea
  rw [hlen] at hown
  have HO := (show Hid (w.ownsRow 0 75 3 v ys.length rows.flatten) from hown)
  have HS := (show Hid (∀ j u, r[j]? = some u → w.cell? ((⟨vb, 0, none⟩ : Addr).add j) = some u) from fun j u hj => by
    rw [Addr.add_mid, Nat.zero_add]
    exact hv.cell hj)
  have HL := (show Hid (rows.length = ys.length) from hlen)
  have HRL := (show Hid (r.length = 1 * 3) from hrl)
  have HA := (show Hid (All2 (OLea (fun b => B ≤ b ∧ v.ownBlock ≠ some b) w) rows ys) from hall)
  have hform : ∃ ao cap, v = .slice ao ys.length cap ∧ ys.length ≤ cap ∧ (cap : Int) ≤ 9223372036854775807 := by
    rcases hown.2 with ⟨rfl, h⟩ | ⟨g, cap, cur, rfl, _, _, h1, h2, _⟩
    · exact ⟨none, 0, by rw [h], by omega, by decide⟩
    · exact ⟨_, cap, rfl, h1, by unfold maxLen at h2; omega⟩
  clear hown hall hlen hrl
  obtain ⟨n, hnn⟩ : ∃ n, n = ys.length := ⟨_, rfl⟩
  rw [← hnn] at HO HL hn hform ⊢
  have HN := (show Hid (ys.length = n) from hnn.symm)
  clear hnn
  have hz2 : ((n : Int) == (n : Int)) = true := by simp
  have hbk : ∀ g, v.ownBlock = some g → B ≤ g := hfr
  have HFR := (show Hid (∀ g, v.ownBlock = some g → B ≤ g) from hbk)
  have HLT := (show Hid (∀ g, v.ownBlock = some g → g < w.heap.size) from fun g hg => (World.ownsRow.lt HO.out g hg).2)
  have fin : ∀ (g cap : Nat) (w' : World), w'.ownsRow 0 75 3 (.slice (some ⟨g, 0, none⟩) (n + 1) cap) (n + 1) (rows.flatten ++ r) → w.grownBy w' v.ownBlock → (v.ownBlock = some g ∨ w.heap.size ≤ g) → LB OLea 75 3 B w' (.slice (some ⟨g, 0, none⟩) (n + 1) cap) (ys ++ [y]) ∧ w.grownBy w' v.ownBlock := by
    intro g cap w' hown' hgr hat
    have hgB : B ≤ g := by
      rcases hat with hat | hat
      · exact HFR.out g hat
      · omega
    have hflat : rows.flatten ++ r = (rows ++ [r]).flatten := by simp
    have hrl : r.length = 3 := HRL.out
    refine ⟨⟨rows ++ [r], ?_, ?_, fr_at _ _ _ _ hgB, ?_⟩, hgr⟩
    · intro q hq
      rcases List.mem_append.1 hq with hq | hq
      · exact h0 q hq
      · simp at hq; subst hq; exact hrl
    · rw [List.length_append, ← hflat, HL.out]
      exact hown'
    · have mv : Mv (fun b => B ≤ b ∧ v.ownBlock ≠ some b) (fun b => B ≤ b ∧ (Value.slice (some ⟨g, 0, none⟩) (n + 1) cap).ownBlock ≠ some b) w w' := fun j hj hjl => by
        refine ⟨hgr.block j hjl (fun e => hj.2 e.symm), hj.1, fun e => ?_⟩
        simp [Value.ownBlock] at e
        rcases hat with hat | hat
        · exact hj.2 (by rw [hat, e])
        · omega
      exact All2.app (HA.out.mono fun q b hq => mov_olea _ _ _ _ _ _ hq hgr.size mv) ⟨mov_olea _ _ _ _ _ _ hr hgr.size mv, trivial⟩
  have HFI := (show Hid (∀ (g cap : Nat) (w' : World), w'.ownsRow 0 75 3 (.slice (some ⟨g, 0, none⟩) (n + 1) cap) (n + 1) (rows.flatten ++ r) → w.grownBy w' v.ownBlock → (v.ownBlock = some g ∨ w.heap.size ≤ g) → LB OLea 75 3 B w' (.slice (some ⟨g, 0, none⟩) (n + 1) cap) (ys ++ [y]) ∧ w.grownBy w' v.ownBlock) from fin)
  clear fin hbk hr hv
  obtain ⟨ao, cap, rfl, hc1, hc2⟩ := hform
  have hb0 : (0 : Int) ≤ (n : Int) := by omega
  by_cases hcn : cap = n
  · subst hcn
    cases ao with
    | none =>
      go_enter Tryz.func115, Tryz.ntmps115
      go_wp2_with (at_builtin; refine wpList_append_lies w rfl _ _ 24 rfl 0 75 i0 _ 3 40 Tryz.underlying24 hi0 hz0 hzs hzb rfl (by decide) _ cap rows.flatten rfl HO.out ⟨vb, 0, none⟩ 1 1 r rfl HRL.out HS.out h1r (by decide) (by unfold maxLen; omega) (by omega) (Nat.zero_le _) w.heap.size rfl ?_; intro g cap' w' hown' hgr hat hlt)
      go_ret
      obtain ⟨f1, f2⟩ := HFI.out g cap' w' hown' hgr (hat.imp_right fun e => Nat.le_of_eq e.symm)
      exact ⟨_, rfl, f1, f2⟩
    | some a =>
      go_enter Tryz.func115, Tryz.ntmps115
      go_wp2_with (at_builtin; refine wpList_append_lies w rfl _ _ 24 rfl 0 75 i0 _ 3 40 Tryz.underlying24 hi0 hz0 hzs hzb rfl (by decide) _ cap rows.flatten rfl HO.out ⟨vb, 0, none⟩ 1 1 r rfl HRL.out HS.out h1r (by decide) (by unfold maxLen; omega) (by omega) (Nat.zero_le _) w.heap.size rfl ?_; intro g cap' w' hown' hgr hat hlt)
      go_ret
      obtain ⟨f1, f2⟩ := HFI.out g cap' w' hown' hgr (hat.imp_right fun e => Nat.le_of_eq e.symm)
      exact ⟨_, rfl, f1, f2⟩
  · cases ao with
    | none =>
      exfalso
      rcases HO.out.2 with ⟨h, _⟩ | ⟨g, cap', cur, h, _⟩
      · injection h with _ h1 h2; omega
      · injection h with h; cases h
    | some a =>
      go_enter Tryz.func115, Tryz.ntmps115
      go_wp2_with (at_builtin; refine wpList_append_lies w rfl _ _ 24 rfl 0 75 i0 _ 3 40 Tryz.underlying24 hi0 hz0 hzs hzb rfl (by decide) _ n rows.flatten rfl HO.out ⟨vb, 0, none⟩ 1 1 r rfl HRL.out HS.out h1r (by decide) (by unfold maxLen; omega) (by omega) (Nat.zero_le _) w.heap.size rfl ?_; intro g cap' w' hown' hgr hat hlt)
      go_ret
      obtain ⟨f1, f2⟩ := HFI.out g cap' w' hown' hgr (hat.imp_right fun e => Nat.le_of_eq e.symm)
      exact ⟨_, rfl, f1, f2⟩

/-- slices.Insert. -/
theorem insertS_any (w : World) (v : Value) (B : Nat) (ys : List PEnt) (h : LB OLea 75 3 B w v ys) (hB : B ≤ w.heap.size) (hn : ys.length ≤ 64) (i : Nat) (hi : i ≤ ys.length) (vb : Nat) (r : List Value) (hv : Row w vb 75 r) (hvb : v.ownBlock ≠ some vb) (y : PEnt) (hr : OLea (fun b => B ≤ b ∧ v.ownBlock ≠ some b) w r y) :
    Calls Tryz.prog 115 #[v, .int .i64 (i : Int), .slice (some ⟨vb, 0, none⟩) 1 1] w fun e w' => ∃ v', e = .returned v' ∧ LB OLea 75 3 B w' v' (insL i y ys) ∧ w.grownBy w' v.ownBlock := by
  rcases Nat.lt_or_ge i ys.length with hil | hil
  rotate_left
  · obtain rfl : i = ys.length := by omega
    rw [insL, List.take_length, List.drop_length]
    exact insertS_end w v B ys h hB hn vb r hv y hr
  obtain ⟨rows, h0, hown, hfr, hall⟩ := h
  have hlen := hall.len
  have hrl : r.length = 3 := by obtain ⟨a, p, q, rfl, _⟩ := hr; rfl
  have h1r := one_RS hr.lea
  have h1 : ∀ u ∈ rows.flatten, u.oneCell' = true := by
    intro u hu
    obtain ⟨q, hq, huq⟩ := List.mem_flatten.1 hu
    obtain ⟨k, hk, rfl⟩ := List.getElem_of_mem hq
    exact one_RS (hall.get (List.getElem?_eq_getElem hk) (List.getElem?_eq_getElem (by omega))).lea u huq
  have hfl := flat_len h0
  have hfin : rows.flatten.take (i * 3) ++ (r ++ rows.flatten.drop (i * 3)) = (insL i r rows).flatten := by
    rw [flat_take h0 i (by omega), flat_drop h0 i (by omega), insL, List.flatten_append, List.flatten_cons]
  have hil2 : ∀ q ∈ insL i r rows, q.length = 3 := fun q hq => by
    rcases List.mem_append.1 hq with hq | hq
    · exact h0 q (List.mem_of_mem_take hq)
    · rcases List.mem_cons.1 hq with rfl | hq
      · exact hrl
      · exact h0 q (List.mem_of_mem_drop hq)
  have hlenI : (insL i r rows).length = ys.length + 1 := by rw [insL, List.length_append, List.length_cons, List.length_take, List.length_drop]; omega
  have hallI : ∀ (G' : Nat → Prop) (w' : World), w.heap.size ≤ w'.heap.size → Mv (fun b => B ≤ b ∧ v.ownBlock ≠ some b) G' w w' → All2 (OLea G' w') (insL i r rows) (insL i y ys) := fun G' w' hs hm =>
    All2.app ((hall.take i).mono fun q b hq => mov_olea _ _ _ _ _ _ hq hs hm) ⟨mov_olea _ _ _ _ _ _ hr hs hm, (hall.drop i).mono fun q b hq => mov_olea _ _ _ _ _ _ hq hs hm⟩
  rw [hlen] at hown hfl
  rcases hown.2 with ⟨_, h4⟩ | ⟨g, cap, cur, rfl, _, hg, hc1, hc2, hc3, hc4⟩
  · omega
  have hrow : Row w g 75 cur.toList := by unfold Row; simpa using hg
  have hvg : vb ≠ g := fun e => hvb (by simp [Value.ownBlock, e])
  have hgB : B ≤ g := hfr g rfl
  rcases Nat.lt_or_ge cap (ys.length + 1) with hroom | hroom
  · refine (insertS_grow w g cap ys.length i vb cur.toList rows.flatten r hrow (by simpa using hc3) hfl hc4 hil hc1 hroom hn h1 hv hrl h1r).mono ?_
    rintro e w' ⟨NC, rfl, n1, n2, hb, cur', k1, k2, k3⟩
    refine ⟨_, rfl, ⟨insL i r rows, hil2, ⟨flat_len hil2, .inr ⟨w.heap.size, NC, cur'.toArray, by rw [hlenI], Nat.zero_le _, k1, by omega, n2, by simpa using k2, by rw [hlenI, ← hfin]; simpa using k3⟩⟩, fr_at _ _ _ _ hB, hallI _ _ hb.size fun j hj hjl => ⟨hb.block j hjl, hj.1, fun e => ?_⟩⟩, grown_of_below hb _⟩
    simp [Value.ownBlock] at e
    omega
  · refine (insertS_room w g cap ys.length i vb cur.toList rows.flatten r hrow (by simpa using hc3) hfl hc4 hil hroom hc2 hn h1 hvg hv hrl h1r).mono ?_
    rintro e w' ⟨rfl, hb, cur', k1, k2, k3⟩
    refine ⟨_, rfl, ⟨insL i r rows, hil2, ⟨flat_len hil2, .inr ⟨g, cap, cur'.toArray, by rw [hlenI], Nat.zero_le _, k1, by omega, hc2, by simpa using k2, by rw [hlenI, ← hfin]; simpa using k3⟩⟩, fr_at _ _ _ _ hgB, hallI _ _ hb.size fun j hj hjl => ⟨hb.block j hjl (fun e => hj.2 e.symm), hj.1, hj.2⟩⟩, hb⟩
end Go.Proofs.YteafgdidjdfiiaaGreat
