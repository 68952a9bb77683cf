/- catenarylaw10.SnapEncodes: its walk. -/
import Derived.Test.YtejkkhlblnepeaaUA
import Derived.Test.YtejkkhlblnepeaaW2
import Derived.Test.YtejkkhlblnepeaaRB
import Derived.Sort.AtCall
import Derived.Deep.RegionHeld3
import Derived.Test.YtejkkhlblnepeaaUC
import Derived.Test.YtejkkhlblnepeaaXH
section
set_option linter.unusedVariables false
set_option linter.unusedSimpArgs false
namespace Go.Proofs.Ytejkkhlblnepeaa
open Go.RowKit Oct Kvl

/-- The numbers' bytes. -/
def numsI : List Int → List Int
  | [] => []
  | n :: l => outI n ++ numsI l
theorem numsI_app : ∀ a b, numsI (a ++ b) = numsI a ++ numsI b
  | [], _ => rfl
  | n :: a, b => by rw [List.cons_append, numsI, numsI, numsI_app a b, List.append_assoc]
theorem numsI_snoc {l : List Int} {k : Nat} {n : Int} (h : l[k]? = some n) : numsI (l.take (k + 1)) = numsI (l.take k) ++ outI n := by
  rw [List.take_add_one, h, numsI_app]
  simp [numsI]
theorem numsI_len : ∀ l, (numsI l).length ≤ 10 * l.length
  | [] => Nat.zero_le _
  | n :: l => by
    have := outI_len n
    have := numsI_len l
    simp only [numsI, List.length_append, List.length_cons]
    omega
/-- Rows of other things than bytes stay. -/
def Kpr (w w' : World) : Prop := ∀ k t xs, t ≠ 5 → Row w k t xs → Row w' k t xs
theorem Kpr.trans {w w1 w2 : World} (h : Kpr w w1) (h' : Kpr w1 w2) : Kpr w w2 := fun k t xs ht hr => h' k t xs ht (h k t xs ht hr)
theorem Kpr.below {w w' : World} (h : Below w.heap.size w w') : Kpr w w' := fun _ _ _ _ hr => hr.below h
theorem Kpr.app {w w' : World} {v v' : Value} {xs ys : List Value} (ho : Own w 5 v xs) (h : App w 5 v w' v' ys) : Kpr w w' := fun k t zs ht hr => hr.grown h.grown (own_row_nU hr ho ht)
/-- The text that is being written, from block B on. -/
def OV (B : Nat) (w : World) (v : Value) (l : List Int) : Prop := Own w 5 v (bc l) ∧ Fr B v ∧ B ≤ w.heap.size
theorem OV.below {B : Nat} {w w' : World} {v : Value} {l : List Int} (h : OV B w v l) (hb : Below w.heap.size w w') : OV B w' v l := ⟨h.1.below hb, h.2.1, Nat.le_trans h.2.2 hb.size⟩
theorem OV.grown {B : Nat} {w w' : World} {v : Value} {l : List Int} (h : OV B w v l) {k : Nat} {t : TypeId} {xs : List Value} (hg : w.grownBy w' (some k)) (hr : Row w k t xs) (ht : t ≠ 5) : OV B w' v l :=
  ⟨h.1.grown hg (fun j hj => by cases hj; exact own_row_nU hr h.1 ht), h.2.1, Nat.le_trans h.2.2 hg.size⟩
theorem OV.app {B : Nat} {w w' : World} {v v' : Value} {l m : List Int} (h : OV B w v l) (ha : App w 5 v w' v' (bc m)) : OV B w' v' m ∧ Below B w w' ∧ Kpr w w' :=
  ⟨⟨ha.own, ha.fr h.2.1 h.2.2, Nat.le_trans h.2.2 ha.grown.size⟩, ha.below h.2.1 h.2.2, Kpr.app h.1 ha⟩

set_option maxRecDepth 10000 in
set_option maxHeartbeats 800000 in
/-- catenaryref10.text. -/
theorem refTextU (B : Nat) (w : World) (v : Value) (l : List Int) (p : Value) (t : List Int) (h : OV B w v l) (hp : Rd w p t) (hl : l.length ≤ 1000000) (ht : t.length ≤ 1000000) :
    Calls Try.prog 23 #[v, p] w fun e w' => ∃ v', e = .returned v' ∧ OV B w' v' (l ++ (enc t.length ++ t)) ∧ Below B w w' ∧ Kpr w w' := by
  have hI := refBytes_any w p t hp (by omega)
  have HL := (show Hid (l.length + (enc t.length ++ t).length ≤ 140737488355328) by show _ ≤ _; have := enc_len (t.length : Int); rw [List.length_append]; omega)
  clear hl ht
  go_enter Try.func23, Try.ntmps23
  go_wp2_with (first
    | (go_at_call 45; refine hI.mono ?_; rintro e w1 ⟨v1, rfl, hown1, hfr1, hb1⟩; have h1 := h.below hb1)
    | (at_builtin; refine app_bytes rfl _ _ rfl v l rfl h1.1 _ (enc t.length ++ t) rfl hown1.rdv HL.out ?_; intro v2 w2 happ))
  go_ret
  obtain ⟨q1, q2, q3⟩ := h1.app happ
  exact ⟨_, rfl, q1, (hb1.mono h.2.2).trans q2, (Kpr.below hb1).trans q3⟩

set_option maxRecDepth 10000 in
set_option maxHeartbeats 800000 in
/-- catenaryref10.nums. -/
theorem refNumsU (B : Nat) (w : World) (v : Value) (l : List Int) (g : Nat) (xs : List Int) (h : OV B w v l) (hg : Row w g 3 (xs.map (Value.int .i64))) (hl : l.length ≤ 1000000) (hx : xs.length ≤ 100) :
    Calls Try.prog 22 #[v, .slice (some ⟨g, 0, none⟩) xs.length xs.length] w fun e w' => ∃ v', e = .returned v' ∧ OV B w' v' (l ++ numsI xs) ∧ Below B w w' ∧ Kpr w w' := by
  obtain ⟨N, hN⟩ : ∃ N, N = xs.length := ⟨_, rfl⟩
  rw [← hN]
  have HN := (show Hid (N = xs.length) from hN)
  have hNm : (N : Int) ≤ 100 := by omega
  clear hN
  go_enter Try.func22, Try.ntmps22
  go_wp2_with fail
  go_loopw [0, 11] (fun v' i wr => ∃ q : Nat, q ≤ N ∧ i = .int .i64 q ∧ OV B wr v' (l ++ numsI (xs.take q)) ∧ Below B w wr ∧ Kpr w wr) (fun _ i _ => N - (intOf i).toNat)
  case atStart => exact ⟨0, Nat.zero_le _, rfl, by simpa [numsI] using h, Below.refl _ _, fun _ _ _ _ hr => hr⟩
  case round =>
    obtain ⟨q, hq, rfl, hO, hb, hK⟩ := hrel
    by_cases hql : q < N
    · obtain ⟨n, hn⟩ : ∃ n, xs[q]? = some n := ⟨_, List.getElem?_eq_getElem (by have := HN.out; omega)⟩
      have c0 := (hK _ _ _ (by decide) hg).cell (j := q) (u := .int .i64 n) (by rw [List.getElem?_map, hn]; rfl)
      have hI := refInt_any wr n
      have HA := (show Hid (numsI (xs.take (q + 1)) = numsI (xs.take q) ++ outI n) from numsI_snoc hn)
      have HL := (show Hid ((l ++ numsI (xs.take q)).length + (outI n).length ≤ 140737488355328) by
        show _ ≤ _
        have h1 := outI_len n
        have h2 := numsI_len (xs.take q)
        have h3 : (xs.take q).length ≤ 100 := by rw [List.length_take]; omega
        rw [List.length_append]
        omega)
      have hqi : (q : Int) < (N : Int) := by omega
      clear hn
      go_wp2_with (first
        | (go_at_call 44; refine hI.mono ?_; rintro e w1 ⟨v1, rfl, hown1, hfr1, hb1⟩; have h1 := hO.below hb1)
        | (at_builtin; refine app_bytes rfl _ _ rfl _ _ rfl h1.1 _ (outI n) rfl hown1.rdv HL.out ?_; intro v2 w2 happ))
      obtain ⟨q1, q2, q3⟩ := h1.app happ
      rw [List.append_assoc, ← HA.out] at q1
      go_roundw
      case rel => exact ⟨q + 1, by omega, by go_num, q1, (hb.trans (hb1.mono hO.2.2)).trans q2, (hK.trans (Kpr.below hb1)).trans q3⟩
      case measure => simp [intOf]; omega
    · have hqd : decide ((q : Int) < N) = false := by simp; omega
      rw [List.take_of_length_le (by have := HN.out; omega)] at hO
      go_wp2_with fail
      go_ret
      exact ⟨_, rfl, hO, hb, hK⟩
end Go.Proofs.Ytejkkhlblnepeaa
end

section
set_option linter.unusedVariables false
set_option linter.unusedSimpArgs false
namespace Go.Proofs.Ytejkkhlblnepeaa
open Go.RowKit Oct Kvl

theorem row_ints (w : World) (xs : List Int) : Row (w.alloc (.cells (xs.map (Value.int .i64)).toArray 3)) w.heap.size 3 (xs.map (Value.int .i64)) := Row.new w 3 _

set_option maxRecDepth 10000 in
set_option maxHeartbeats 8000000 in
/-- catenaryref10.Encode. -/
theorem refEncodeU (w : World) (row : List Value) (a : PApp) (h : RApp Any w row a) :
    Calls Try.prog 9 #[.agg row.toArray] w fun e w' => ∃ v, e = .returned (.tuple #[v, .int .i64 (snE a)]) ∧ Own w' 5 v (bc (snB a)) ∧ Fr w.heap.size v ∧ Below w.heap.size w w' := by
  have le := Nat.le_refl w.heap.size
  have hall := h
  have hwf := h.wfA
  obtain ⟨ve, vl, vs, rfl, h1, h2, h3⟩ := h
  obtain ⟨ae, ce, rfl, hce⟩ := h1.form
  obtain ⟨al, cl, rfl, hcl⟩ := h2.form
  obtain ⟨an, cn, rfl, hcn⟩ := h3.form
  obtain ⟨w0, hw0⟩ : ∃ w0, w0 = w.alloc (.cells #[.int .i64 a.1, .slice ae a.2.1.length ce, .slice al a.2.2.1.length cl, .slice an a.2.2.2.length cn] 27) := ⟨_, rfl⟩
  have xa : Row w0 w.heap.size 27 [.int .i64 a.1, .slice ae a.2.1.length ce, .slice al a.2.2.1.length cl, .slice an a.2.2.2.length cn] := by rw [hw0]; exact Row.new w 27 _
  have B0 : Below w.heap.size w w0 := by rw [hw0]; exact below_alloc _ _
  have hR := refRightA_any w0 _ a (hall.below B0)
  by_cases hg : rgtA a
  rotate_left
  · rw [show snE a = 101 from if_neg hg, show snB a = [] from if_neg hg]
    rw [decide_eq_false hg] at hR
    clear h1 h2 h3 hwf hg
    go_enter Try.func9, Try.ntmps9
    go_upto_region 1 with fail
    rw [← hw0]
    clear hw0
    go_wp2_with (first
      | (refine wl_load rfl _ _ rfl w.heap.size rfl _ _ xa _ Try.underlying27 rfl (by kernel_rfl) ?_)
      | (go_at_call 21; refine hR.mono ?_; rintro e w1 ⟨rfl, hb1⟩))
    go_ret2
    exact ⟨_, rfl, Own.nil _ _, Fr.nil _, below_and B0 le hb1⟩
  rw [show snE a = 0 from if_pos hg, show snB a = wrA a from if_pos hg]
  rw [decide_eq_true hg] at hR
  have HE := (show Hid (∀ (q : Nat) (y : PEnt), a.2.1[q]? = some y → ∃ bb off cap, Value.slice ae a.2.1.length ce = .slice (some ⟨bb, off, none⟩) a.2.1.length cap ∧ cap ≤ maxLen ∧ a.2.1.length ≤ cap ∧ ∃ r, REnt Any w r y ∧ ∀ u, Below w.heap.size w u → u.rangeAt bb (off + q * 2) r ∧ REnt Any u r y) from h1.each mov_ent)
  have HL := (show Hid (∀ (q : Nat) (y : PEnt), a.2.2.1[q]? = some y → ∃ bb off cap, Value.slice al a.2.2.1.length cl = .slice (some ⟨bb, off, none⟩) a.2.2.1.length cap ∧ cap ≤ maxLen ∧ a.2.2.1.length ≤ cap ∧ ∃ r, RLea Any w r y ∧ ∀ u, Below w.heap.size w u → u.rangeAt bb (off + q * 3) r ∧ RLea Any u r y) from h2.each mov_lea)
  have HN := (show Hid (∀ (q : Nat) (y : PEnt), a.2.2.2[q]? = some y → ∃ bb off cap, Value.slice an a.2.2.2.length cn = .slice (some ⟨bb, off, none⟩) a.2.2.2.length cap ∧ cap ≤ maxLen ∧ a.2.2.2.length ≤ cap ∧ ∃ r, RSes Any w r y ∧ ∀ u, Below w.heap.size w u → u.rangeAt bb (off + q * 4) r ∧ RSes Any u r y) from h3.each mov_ses)
  have HW := (show Hid (wrA a = outI a.1 ++ ((outI a.2.1.length ++ wrN (cEn 16 64) a.2.1) ++ ((outI a.2.2.1.length ++ wrN (cLe 16) a.2.2.1) ++ (outI a.2.2.2.length ++ wrN (cSe 64) a.2.2.2)))) from wrA_eq a)
  have HG := (show Hid (rgtA a) from hg)
  have HK1 := (show Hid (∀ e ∈ a.2.1, ((cEn 16 64).wr e).length ≤ 110) from fun e he => Nat.le_trans (wrE_len (hg.2.1.2.2 e he)) (by omega))
  have HK2 := (show Hid (∀ e ∈ a.2.2.1, ((cLe 16).wr e).length ≤ 110) from fun e he => Nat.le_trans (wrL_len (hg.2.2.1.2.2 e he)) (by omega))
  have HK3 := (show Hid (∀ e ∈ a.2.2.2, ((cSe 64).wr e).length ≤ 110) from fun e he => wrS_len (chk_all hg.2.2.2 e he))
  have HT1 := (show Hid (∀ e ∈ a.2.1, e.1.length ≤ 64 ∧ e.2.length ≤ 64) from fun e he => by obtain ⟨_, _, _⟩ := hg.2.1.2.2 e he; omega)
  have HT2 := (show Hid (∀ e ∈ a.2.2.1, e.1.length ≤ 64) from fun e he => by obtain ⟨⟨_, _⟩, _⟩ := hg.2.2.1.2.2 e he; omega)
  have HT3 := (show Hid (∀ e ∈ a.2.2.2, (sv e).length ≤ 64) from fun e he => by obtain ⟨_, _, _, _⟩ := chk_all hg.2.2.2 e he; omega)
  have n1 : a.2.1.length ≤ 64 := hg.2.1.1
  have n2 : a.2.2.1.length ≤ 64 := by have := hg.2.2.1.1; omega
  have n3 : a.2.2.2.length ≤ 64 := by have := rgn_len hg.2.2.2; omega
  generalize wrA a = WA at *
  obtain ⟨slot, es, ls, ss⟩ := a
  dsimp only at *
  obtain ⟨N1, hN1⟩ : ∃ N1, N1 = es.length := ⟨_, rfl⟩
  obtain ⟨N2, hN2⟩ : ∃ N2, N2 = ls.length := ⟨_, rfl⟩
  obtain ⟨N3, hN3⟩ : ∃ N3, N3 = ss.length := ⟨_, rfl⟩
  simp only [← hN1, ← hN2, ← hN3] at hw0 xa hR HE HL HN HW n1 n2 n3 ⊢
  have HN1 := (show Hid (N1 = es.length) from hN1)
  have HN2 := (show Hid (N2 = ls.length) from hN2)
  have HN3 := (show Hid (N3 = ss.length) from hN3)
  clear h1 h2 h3 hg hwf hall hN1 hN2 hN3 hce hcl hcn
  go_enter Try.func9, Try.ntmps9
  go_upto_region 1 with fail
  rw [← hw0]
  clear hw0
  go_upto_region 3 with (first
    | (refine wl_load rfl _ _ rfl w.heap.size rfl _ _ xa _ Try.underlying27 rfl (by kernel_rfl) ?_)
    | (go_at_call 21; refine hR.mono ?_; rintro e w1 ⟨rfl, hb1⟩))
  have xa := xa.below hb1
  have B1 := below_and B0 le hb1
  clear hb1 hR B0
  have hlt := xa.lt
  have hBB : w.heap.size ≤ w1.heap.size := B1.size
  have HX1 := (show Hid (∀ u, Below w1.heap.size w1 u → Row u w.heap.size 27 [.int .i64 slot, .slice ae N1 ce, .slice al N2 cl, .slice an N3 cn] ∧ Below w.heap.size w u) from fun u hu => ⟨xa.below hu, below_and B1 le hu⟩)
  have d1 : Below w1.heap.size w1 (w1.alloc (.cells #[] 5)) := below_alloc _ _
  have d2 : Below w1.heap.size w1 ((w1.alloc (.cells #[] 5)).alloc (.cells #[.int .i64 slot, .int .i64 (N1 : Int)] 3)) := below_and d1 (Nat.le_refl _) (below_alloc _ _)
  have x1 := (HX1.out _ d1).1
  have c0 := x1.cell (j := 0) rfl
  have c1 := x1.cell (j := 1) rfl
  have hO0 : OV w1.heap.size ((w1.alloc (.cells #[] 5)).alloc (.cells #[.int .i64 slot, .int .i64 (N1 : Int)] 3)) (.slice (some ⟨w1.heap.size, 0, none⟩) 0 0) [] := ⟨(own_zero w1 5).below (below_alloc _ _), fr_at _ _ _ _ (Nat.le_refl _), by simp; omega⟩
  have hI0 : Row ((w1.alloc (.cells #[] 5)).alloc (.cells #[.int .i64 slot, .int .i64 (N1 : Int)] 3)) (w1.heap.size + 1) 3 (([slot, (N1 : Int)] : List Int).map (Value.int .i64)) := by
    have := row_ints (w1.alloc (.cells #[] 5)) [slot, (N1 : Int)]
    simpa using this
  have hC := refNumsU w1.heap.size _ _ [] _ [slot, (N1 : Int)] hO0 hI0 (by simp) (by simp)
  go_upto_region 4 with (go_at_call 22; refine hC.mono ?_; rintro e w2 ⟨v2, rfl, hO2, hb2, hk2⟩)
  have B2 : Below w1.heap.size w1 w2 := d2.trans hb2
  have HX := (show Hid (∀ u, Below w1.heap.size w2 u → Row u w.heap.size 27 [.int .i64 slot, .slice ae N1 ce, .slice al N2 cl, .slice an N3 cn] ∧ Below w.heap.size w u) from fun u hu => ⟨xa.belB (B2.trans hu) hlt, B1.trans ((B2.trans hu).mono hBB)⟩)
  rw [List.nil_append] at hO2
  obtain ⟨L1, hL1⟩ : ∃ L1, L1 = numsI [slot, (N1 : Int)] := ⟨_, rfl⟩
  have HL1 := (show Hid (L1 = outI slot ++ outI (N1 : Int)) by show _ = _; rw [hL1]; simp [numsI])
  have g1 : L1.length ≤ 20 := by rw [hL1]; have := numsI_len [slot, (N1 : Int)]; simpa using this
  rw [← hL1] at hO2
  have hb24 : Below w1.heap.size w2 w2 := Below.refl _ _
  generalize w1.heap.size = B at hO2 hlt hBB HX hb24
  clear c0 c1 x1 hC hL1 d1 d2 hO0 hI0 hb2 hk2 HX1 B2 B1 xa hlt
  have c1 := (HX.out w2 hb24).1.cell (j := 1) rfl
  go_wp2_with fail
  go_loopw [4, 25] (fun v i wr => ∃ q : Nat, q ≤ N1 ∧ i = .int .i64 q ∧ OV B wr v (L1 ++ wrN (cEn 16 64) (es.take q)) ∧ Below B w2 wr) (fun _ i _ => N1 - (intOf i).toNat)
  case atStart => exact ⟨0, Nat.zero_le _, rfl, by simpa [wrN] using hO2, hb24⟩
  case round =>
    clear hO2 c1
    obtain ⟨q, hq, rfl, hO, hbr⟩ := hrel
    obtain ⟨xr, Br⟩ := HX.out wr hbr
    by_cases hql : q < N1
    · obtain ⟨y, hy⟩ : ∃ y, es[q]? = some y := ⟨_, List.getElem?_eq_getElem (by have := HN1.out; omega)⟩
      obtain ⟨bb, off, cap, e, hcm, hcn, rw0, HR0, HR⟩ := HE.out q y hy
      injection e with e1 e2 e3
      subst e1 e3
      clear e2
      have hym := List.mem_of_getElem? hy
      have HA := (show Hid (∀ X, X = (cEn 16 64).wr y → (L1 ++ wrN (cEn 16 64) (es.take q)) ++ X = L1 ++ wrN (cEn 16 64) (es.take (q + 1))) from fun X hX => by rw [wrN_take (cEn 16 64) hy, hX, List.append_assoc])
      have hlen : (L1 ++ wrN (cEn 16 64) (es.take q)).length ≤ 900000 := takeLen L1 g1 HK1.out (by have := HN1.out; omega) (by omega)
      obtain ⟨s, t, rfl, hs, ht⟩ := HR0
      have HRR := (show Hid (∀ u, Below w.heap.size w u → RT Any u s y.1 ∧ RT Any u t y.2) from fun u hu => by obtain ⟨_, s2, t2, e, p1, p2⟩ := HR u hu; injection e with e1 e; injection e with e2 _; subst e1 e2; exact ⟨p1, p2⟩)
      have hrng := (HR wr Br).1
      have hone : ∀ x ∈ ([s, t] : List Value), x.oneCell' = true := (by intro x hx; simp only [List.mem_cons, List.not_mem_nil, or_false] at hx; rcases hx with rfl | rfl; exact hs.one; exact ht.one)
      have hrow0 := Row.new wr 54 [.slice none 0 0, .slice none 0 0]
      have hqi : (q : Int) < (N1 : Int) := by omega
      clear HR hy
      go_upto_region 7 with (first
        | (refine wpList_load_mid rfl _ _ rfl bb (off + q * 2) rfl [s, t] _ hrng Try.underlying54 rfl (by kernel_rfl) ?_)
        | (refine wl_store rfl _ _ _ rfl wr.heap.size [s, t] rfl rfl _ _ hrow0 rfl (by kernel_rfl) hone ?_; intro w5 hr5 hg5))
      have hr5 := hr5.out
      have hb5 : Below wr.heap.size wr w5 := (below_alloc wr (.cells ([.slice none 0 0, .slice none 0 0] : List Value).toArray 54)).trans (grown_below hg5 (by simp) (fun k hk => by cases hk; exact Nat.le_refl _))
      have hO5 := hO.below hb5
      have hB5 : Below B w2 w5 := hbr.trans (hb5.mono hO.2.2)
      obtain ⟨gb, hgb⟩ : ∃ gb, gb = wr.heap.size := ⟨_, rfl⟩
      rw [← hgb] at hr5 ⊢
      have hglt : gb < w5.heap.size := hr5.lt
      clear hrng hone hrow0 hg5 hgb hb5 hO xr Br
      obtain ⟨M, hM⟩ : ∃ M, M = L1 ++ wrN (cEn 16 64) (es.take q) := ⟨_, rfl⟩
      rw [← hM] at hO5 hlen HA
      clear hM
      have hdw : Below w5.heap.size w5 w5.drew := ⟨rfl, rfl, rfl, Nat.le_refl _, fun _ _ => rfl⟩
      have SK := (show Hid (∀ u, Row u gb 54 [s, t] → u.cell? ⟨gb, 0, none⟩ = some (s) ∧ u.cell? ⟨gb, 1, none⟩ = some (t)) from fun u hu => ⟨hu.cell (j := 0) rfl, hu.cell (j := 1) rfl⟩)
      have HTa := (show Hid (∀ u, Below B w2 u → OV B u u4 M → Row u gb 54 [s, t] → Calls Try.prog 23 #[u4, s] u fun e w' => ∃ v', e = .returned v' ∧ OV B w' v' (M ++ (enc y.1.length ++ y.1)) ∧ Below B w2 w' ∧ Row w' gb 54 [s, t] ∧ u.heap.size ≤ w'.heap.size ∧ Kpr u w') from fun u hu hv hr => (refTextU B u u4 M s y.1 hv (HRR.out u (HX.out u hu).2).1.1 (by omega) (Nat.le_trans (HT1.out y hym).1 (by omega))).mono fun e w' ⟨v', e1, e2, e3, e4⟩ => ⟨v', e1, e2, hu.trans e3, e4 _ _ _ (by decide) hr, e3.size, e4⟩)
      have HTb := (show Hid (∀ u v, Below B w2 u → OV B u v (M ++ (enc y.1.length ++ y.1)) → Row u gb 54 [s, t] → Calls Try.prog 23 #[v, t] u fun e w' => ∃ v', e = .returned v' ∧ OV B w' v' ((M ++ (enc y.1.length ++ y.1)) ++ (enc y.2.length ++ y.2)) ∧ Below B w2 w' ∧ Row w' gb 54 [s, t] ∧ u.heap.size ≤ w'.heap.size ∧ Kpr u w') from fun u v hu hv hr => (refTextU B u v _ t y.2 hv (HRR.out u (HX.out u hu).2).2.1 (by have := enc_len (y.1.length : Int); have := (HT1.out y hym).1; simp only [List.length_append]; omega) (Nat.le_trans (HT1.out y hym).2 (by omega))).mono fun e w' ⟨v', e1, e2, e3, e4⟩ => ⟨v', e1, e2, hu.trans e3, e4 _ _ _ (by decide) hr, e3.size, e4⟩)
      try go_simp
      go_wp2_with fail
      go_region_held3 (fun u => u.cell? ⟨gb, 0, none⟩ = some (s) ∧ u.cell? ⟨gb, 1, none⟩ = some (t))
        (first | (with_reducible exact SK.out w7 hr7) | (with_reducible exact SK.out w6 hr6) | (with_reducible exact SK.out w5 hr5) | (with_reducible exact SK.out w5.drew hr5.drew) | go_keep)
        (first
          | (go_at_call_has 23 t; refine (HTb.out _ _ (by first | (with_reducible exact hB6) | (with_reducible exact hB6.drew)) (by first | (with_reducible exact hO6) | exact ⟨hO6.1.drew, hO6.2⟩) (by first | (with_reducible exact hr6) | exact hr6.drew)).mono ?_; rintro e w7 ⟨v7, rfl, hO7, hB7, hr7, hz7, hk7⟩)
          | (go_at_call_has 23 s; refine (HTa.out _ (by first | (with_reducible exact hB5) | (with_reducible exact hB5.drew)) (by first | (with_reducible exact hO5) | exact ⟨hO5.1.drew, hO5.2⟩) (by first | (with_reducible exact hr5) | exact hr5.drew)).mono ?_; rintro e w6 ⟨v6, rfl, hO6, hB6, hr6, hz6, hk6⟩))
      all_goals (
        have hOz : OV B w7 v7 (L1 ++ wrN (cEn 16 64) (es.take (q + 1))) := by
          rw [← HA.out ((enc y.1.length ++ y.1) ++ (enc y.2.length ++ y.2)) rfl]
          simpa only [List.append_assoc] using hO7
        go_wp2_with fail
        go_roundw
        case rel => exact ⟨q + 1, by omega, by go_num, hOz, hB7⟩
        case measure => simp [intOf]; omega)
    · have hqd : decide ((q : Int) < N1) = false := by simp; omega
      rw [List.take_of_length_le (by have := HN1.out; omega)] at hO
      have c2' := xr.cell (j := 2) rfl
      have hlen := takeLen (l := es) (q := es.length) (c := (cEn 16 64)) L1 g1 HK1.out (by have := HN1.out; omega) (by omega)
      rw [List.take_length] at hlen
      have hC := refNumsU B (wr.alloc (.cells #[.int .i64 (N2 : Int)] 3)) _ _ wr.heap.size [(N2 : Int)] (hO.below (below_alloc _ _)) (Row.new wr 3 _) (by omega) (by simp)
      go_upto_region 10 with (go_at_call 22; refine hC.mono ?_; rintro e w14 ⟨v4, rfl, hO4, hb4, hk4⟩)
      have hb24 : Below B w2 w14 := (hbr.trans ((below_alloc wr _).mono hO.2.2)).trans hb4
      rw [show numsI [(N2 : Int)] = outI (N2 : Int) by simp [numsI]] at hO4
      obtain ⟨L2, hL1⟩ : ∃ L, L = (L1 ++ wrN (cEn 16 64) es) ++ outI (N2 : Int) := ⟨_, rfl⟩
      have HL2 := (show Hid (L2 = (L1 ++ wrN (cEn 16 64) es) ++ outI (N2 : Int)) from hL1)
      have g2 : L2.length ≤ 8000 := by
        have := outI_len (N2 : Int)
        have hw := wrN_len es HK1.out
        have := HN1.out
        have hm : es.length * 110 ≤ 64 * 110 := Nat.mul_le_mul_right _ (by omega)
        rw [hL1, List.length_append, List.length_append]
        omega
      rw [← hL1] at hO4
      clear c2' hC hO hk4 hb4 hL1 hlen xr Br hbr
      have c1 := (HX.out w14 hb24).1.cell (j := 2) rfl
      go_wp2_with fail
      go_loopw [4, 46] (fun v i wr => ∃ q : Nat, q ≤ N2 ∧ i = .int .i64 q ∧ OV B wr v (L2 ++ wrN (cLe 16) (ls.take q)) ∧ Below B w2 wr) (fun _ i _ => N2 - (intOf i).toNat)
      case atStart => exact ⟨0, Nat.zero_le _, rfl, by simpa [wrN] using hO4, hb24⟩
      case round =>
        clear hO4 c1
        obtain ⟨q, hq, rfl, hO, hbr⟩ := hrel
        obtain ⟨xr, Br⟩ := HX.out wr hbr
        by_cases hql : q < N2
        · obtain ⟨y, hy⟩ : ∃ y, ls[q]? = some y := ⟨_, List.getElem?_eq_getElem (by have := HN2.out; omega)⟩
          obtain ⟨bb, off, cap, e, hcm, hcn, rw0, HR0, HR⟩ := HL.out q y hy
          injection e with e1 e2 e3
          subst e1 e3
          clear e2
          have hym := List.mem_of_getElem? hy
          have HA := (show Hid (∀ X, X = (cLe 16).wr y → (L2 ++ wrN (cLe 16) (ls.take q)) ++ X = L2 ++ wrN (cLe 16) (ls.take (q + 1))) from fun X hX => by rw [wrN_take (cLe 16) hy, hX, List.append_assoc])
          have hlen : (L2 ++ wrN (cLe 16) (ls.take q)).length ≤ 900000 := takeLen L2 g2 HK2.out (by have := HN2.out; omega) (by omega)
          obtain ⟨s, p, q', rfl, hs, hpq⟩ := HR0
          have HRR := (show Hid (∀ u, Below w.heap.size w u → RT Any u s y.1) from fun u hu => by obtain ⟨_, s2, p2, q2, e, p1, _⟩ := HR u hu; injection e with e1 e; subst e1; exact p1)
          have hrng := (HR wr Br).1
          have hone : ∀ x ∈ ([s, .int .i64 p, .int .i64 q'] : List Value), x.oneCell' = true := (by intro x hx; simp only [List.mem_cons, List.not_mem_nil, or_false] at hx; rcases hx with rfl | rfl | rfl; exact hs.one; rfl; rfl)
          have hrow0 := Row.new wr 56 [.slice none 0 0, .int .i64 0, .int .i64 0]
          have hqi : (q : Int) < (N2 : Int) := by omega
          clear HR hy
          go_upto_region 13 with (first
            | (refine wpList_load_mid rfl _ _ rfl bb (off + q * 3) rfl [s, .int .i64 p, .int .i64 q'] _ hrng Try.underlying56 rfl (by kernel_rfl) ?_)
            | (refine wl_store rfl _ _ _ rfl wr.heap.size [s, .int .i64 p, .int .i64 q'] rfl rfl _ _ hrow0 rfl (by kernel_rfl) hone ?_; intro w5 hr5 hg5))
          have hr5 := hr5.out
          have hb5 : Below wr.heap.size wr w5 := (below_alloc wr (.cells ([.slice none 0 0, .int .i64 0, .int .i64 0] : List Value).toArray 56)).trans (grown_below hg5 (by simp) (fun k hk => by cases hk; exact Nat.le_refl _))
          have hO5 := hO.below hb5
          have hB5 : Below B w2 w5 := hbr.trans (hb5.mono hO.2.2)
          obtain ⟨gb, hgb⟩ : ∃ gb, gb = wr.heap.size := ⟨_, rfl⟩
          rw [← hgb] at hr5 ⊢
          have hglt : gb < w5.heap.size := hr5.lt
          clear hrng hone hrow0 hg5 hgb hb5 hO xr Br
          obtain ⟨M, hM⟩ : ∃ M, M = L2 ++ wrN (cLe 16) (ls.take q) := ⟨_, rfl⟩
          rw [← hM] at hO5 hlen HA
          clear hM
          have hdw : Below w5.heap.size w5 w5.drew := ⟨rfl, rfl, rfl, Nat.le_refl _, fun _ _ => rfl⟩
          have SK := (show Hid (∀ u, Row u gb 56 [s, .int .i64 p, .int .i64 q'] → u.cell? ⟨gb, 0, none⟩ = some (s) ∧ u.cell? ⟨gb, 1, none⟩ = some (.int .i64 p) ∧ u.cell? ⟨gb, 2, none⟩ = some (.int .i64 q')) from fun u hu => ⟨hu.cell (j := 0) rfl, hu.cell (j := 1) rfl, hu.cell (j := 2) rfl⟩)
          have HTa := (show Hid (∀ u, Below B w2 u → OV B u u4 M → Row u gb 56 [s, .int .i64 p, .int .i64 q'] → Calls Try.prog 23 #[u4, s] u fun e w' => ∃ v', e = .returned v' ∧ OV B w' v' (M ++ (enc y.1.length ++ y.1)) ∧ Below B w2 w' ∧ Row w' gb 56 [s, .int .i64 p, .int .i64 q'] ∧ u.heap.size ≤ w'.heap.size ∧ Kpr u w') from fun u hu hv hr => (refTextU B u u4 M s y.1 hv (HRR.out u (HX.out u hu).2).1 (by omega) (Nat.le_trans (HT2.out y hym) (by omega))).mono fun e w' ⟨v', e1, e2, e3, e4⟩ => ⟨v', e1, e2, hu.trans e3, e4 _ _ _ (by decide) hr, e3.size, e4⟩)
          have HTb := (show Hid (∀ u v g, Below B w2 u → OV B u v (M ++ (enc y.1.length ++ y.1)) → Row u gb 56 [s, .int .i64 p, .int .i64 q'] → Row u g 3 [.int .i64 p, .int .i64 q'] → Calls Try.prog 22 #[v, .slice (some ⟨g, 0, none⟩) 2 2] u fun e w' => ∃ v', e = .returned v' ∧ OV B w' v' ((M ++ (enc y.1.length ++ y.1)) ++ (outI p ++ outI q')) ∧ Below B w2 w' ∧ Row w' gb 56 [s, .int .i64 p, .int .i64 q'] ∧ u.heap.size ≤ w'.heap.size ∧ Kpr u w') from fun u v g hu hv hr hi => (refNumsU B u v _ g [p, q'] hv hi (by have := enc_len (y.1.length : Int); have := HT2.out y hym; simp only [List.length_append]; omega) (by simp)).mono (by rw [show numsI [p, q'] = outI p ++ outI q' by simp [numsI]]; exact fun e w' ⟨v', e1, e2, e3, e4⟩ => ⟨v', e1, e2, hu.trans e3, e4 _ _ _ (by decide) hr, e3.size, e4⟩))
          have hOa : OV B (w5.alloc (.cells #[.int .i64 p, .int .i64 q'] 3)) u4 M := hO5.below (below_alloc _ _)
          have hBa : Below B w2 (w5.alloc (.cells #[.int .i64 p, .int .i64 q'] 3)) := hB5.trans ((below_alloc w5 _).mono hO5.2.2)
          have hra := hr5.below (below_alloc w5 (.cells #[.int .i64 p, .int .i64 q'] 3))
          have hia : Row (w5.alloc (.cells #[.int .i64 p, .int .i64 q'] 3)) w5.heap.size 3 [.int .i64 p, .int .i64 q'] := Row.new w5 3 _
          try go_simp
          go_wp2_with fail
          go_region_held3 (fun u => u.cell? ⟨gb, 0, none⟩ = some (s) ∧ u.cell? ⟨gb, 1, none⟩ = some (.int .i64 p) ∧ u.cell? ⟨gb, 2, none⟩ = some (.int .i64 q'))
            (first | (with_reducible exact SK.out w7 hr7) | (with_reducible exact SK.out (w6.alloc _) hr6a) | (with_reducible exact SK.out w6 hr6) | (with_reducible exact SK.out w5 hr5) | (with_reducible exact SK.out (w5.alloc _) hra) | (with_reducible exact SK.out w5.drew hr5.drew) | (with_reducible exact SK.out (w5.alloc _).drew hra.drew) | go_keep)
            (first
              | (go_at_call_has 22 (Value.slice (some ⟨w6.heap.size, 0, none⟩) 2 2); refine (HTb.out (w6.alloc (.cells #[.int .i64 p, .int .i64 q'] 3)) _ _ (hB6.trans ((below_alloc w6 _).mono hO6.2.2)) (hO6.below (below_alloc _ _)) (hr6.below (below_alloc _ _)) (Row.new w6 3 _)).mono ?_; rintro e w7 ⟨v7, rfl, hO7, hB7, hr7, hz7, hk7⟩)
              | (go_at_call_has 22 (Value.slice (some ⟨w5.heap.size, 0, none⟩) 2 2); refine (HTb.out w6 _ _ hB6 hO6 hr6 (by first | exact hk6 _ _ _ (by decide) hia | exact hk6 _ _ _ (by decide) hia.drew)).mono ?_; rintro e w7 ⟨v7, rfl, hO7, hB7, hr7, hz7, hk7⟩)
              | (go_at_call 23; refine (HTa.out _ (by first | (with_reducible exact hB5) | (with_reducible exact hB5.drew) | (with_reducible exact hBa) | (with_reducible exact hBa.drew)) (by first | (with_reducible exact hO5) | (with_reducible exact hOa) | exact ⟨hO5.1.drew, hO5.2⟩ | exact ⟨hOa.1.drew, hOa.2⟩) (by first | (with_reducible exact hr5) | (with_reducible exact hra) | exact hr5.drew | exact hra.drew)).mono ?_; rintro e w6 ⟨v6, rfl, hO6, hB6, hr6, hz6, hk6⟩; have hr6a := hr6.below (below_alloc w6 (.cells #[.int .i64 p, .int .i64 q'] 3))))
          all_goals (
            have hOz : OV B w7 v7 (L2 ++ wrN (cLe 16) (ls.take (q + 1))) := by
              rw [← HA.out ((enc y.1.length ++ y.1) ++ (outI p ++ outI q')) (by rw [wrL_eq, hpq]; rfl)]
              simpa only [List.append_assoc] using hO7
            go_wp2_with fail
            go_roundw
            case rel => exact ⟨q + 1, by omega, by go_num, hOz, hB7⟩
            case measure => simp [intOf]; omega)
        · have hqd : decide ((q : Int) < N2) = false := by simp; omega
          rw [List.take_of_length_le (by have := HN2.out; omega)] at hO
          have c2' := xr.cell (j := 3) rfl
          have hlen := takeLen (l := ls) (q := ls.length) (c := (cLe 16)) L2 g2 HK2.out (by have := HN2.out; omega) (by omega)
          rw [List.take_length] at hlen
          have hC := refNumsU B (wr.alloc (.cells #[.int .i64 (N3 : Int)] 3)) _ _ wr.heap.size [(N3 : Int)] (hO.below (below_alloc _ _)) (Row.new wr 3 _) (by omega) (by simp)
          go_upto_region 16 with (go_at_call 22; refine hC.mono ?_; rintro e w24 ⟨v4, rfl, hO4, hb4, hk4⟩)
          have hb24 : Below B w2 w24 := (hbr.trans ((below_alloc wr _).mono hO.2.2)).trans hb4
          rw [show numsI [(N3 : Int)] = outI (N3 : Int) by simp [numsI]] at hO4
          obtain ⟨L3, hL1⟩ : ∃ L, L = (L2 ++ wrN (cLe 16) ls) ++ outI (N3 : Int) := ⟨_, rfl⟩
          have HL3 := (show Hid (L3 = (L2 ++ wrN (cLe 16) ls) ++ outI (N3 : Int)) from hL1)
          have g3 : L3.length ≤ 16000 := by
            have := outI_len (N3 : Int)
            have hw := wrN_len ls HK2.out
            have := HN2.out
            have hm : ls.length * 110 ≤ 64 * 110 := Nat.mul_le_mul_right _ (by omega)
            rw [hL1, List.length_append, List.length_append]
            omega
          rw [← hL1] at hO4
          clear c2' hC hO hk4 hb4 hL1 hlen xr Br hbr
          have c1 := (HX.out w24 hb24).1.cell (j := 3) rfl
          go_wp2_with fail
          go_loopw [4, 70] (fun v i wr => ∃ q : Nat, q ≤ N3 ∧ i = .int .i64 q ∧ OV B wr v (L3 ++ wrN (cSe 64) (ss.take q)) ∧ Below B w2 wr) (fun _ i _ => N3 - (intOf i).toNat)
          case atStart => exact ⟨0, Nat.zero_le _, rfl, by simpa [wrN] using hO4, hb24⟩
          case round =>
            clear hO4 c1
            obtain ⟨q, hq, rfl, hO, hbr⟩ := hrel
            obtain ⟨xr, Br⟩ := HX.out wr hbr
            by_cases hql : q < N3
            · obtain ⟨y, hy⟩ : ∃ y, ss[q]? = some y := ⟨_, List.getElem?_eq_getElem (by have := HN3.out; omega)⟩
              obtain ⟨bb, off, cap, e, hcm, hcn, rw0, HR0, HR⟩ := HN.out q y hy
              injection e with e1 e2 e3
              subst e1 e3
              clear e2
              have hym := List.mem_of_getElem? hy
              have HA := (show Hid (∀ X, X = (cSe 64).wr y → (L3 ++ wrN (cSe 64) (ss.take q)) ++ X = L3 ++ wrN (cSe 64) (ss.take (q + 1))) from fun X hX => by rw [wrN_take (cSe 64) hy, hX, List.append_assoc])
              have hlen : (L3 ++ wrN (cSe 64) (ss.take q)).length ≤ 900000 := takeLen L3 g3 HK3.out (by have := HN3.out; omega) (by omega)
              obtain ⟨c, d, k, s, t, rfl, hs, rfl⟩ := HR0
              have HRR := (show Hid (∀ u, Below w.heap.size w u → RT Any u s t) from fun u hu => by obtain ⟨_, c2, d2, k2, s2, t2, e, p1, e2⟩ := HR u hu; simp only [List.cons.injEq, and_true] at e; obtain ⟨_, _, _, e4⟩ := e; subst e4; simp only [Prod.mk.injEq, List.cons.injEq] at e2; obtain ⟨_, _, _, e5⟩ := e2; subst e5; exact p1)
              have hrng := (HR wr Br).1
              have hone : ∀ x ∈ ([.int .i64 c, .int .i64 d, .int .i64 k, s] : List Value), x.oneCell' = true := (by intro x hx; simp only [List.mem_cons, List.not_mem_nil, or_false] at hx; rcases hx with rfl | rfl | rfl | rfl; rfl; rfl; rfl; exact hs.one)
              have hrow0 := Row.new wr 48 [.int .i64 0, .int .i64 0, .int .i64 0, .slice none 0 0]
              have hqi : (q : Int) < (N3 : Int) := by omega
              clear HR hy
              go_upto_region 19 with (first
                | (refine wpList_load_mid rfl _ _ rfl bb (off + q * 4) rfl [.int .i64 c, .int .i64 d, .int .i64 k, s] _ hrng Try.underlying48 rfl (by kernel_rfl) ?_)
                | (refine wl_store rfl _ _ _ rfl wr.heap.size [.int .i64 c, .int .i64 d, .int .i64 k, s] rfl rfl _ _ hrow0 rfl (by kernel_rfl) hone ?_; intro w5 hr5 hg5))
              have hr5 := hr5.out
              have hb5 : Below wr.heap.size wr w5 := (below_alloc wr (.cells ([.int .i64 0, .int .i64 0, .int .i64 0, .slice none 0 0] : List Value).toArray 48)).trans (grown_below hg5 (by simp) (fun k hk => by cases hk; exact Nat.le_refl _))
              have hO5 := hO.below hb5
              have hB5 : Below B w2 w5 := hbr.trans (hb5.mono hO.2.2)
              obtain ⟨gb, hgb⟩ : ∃ gb, gb = wr.heap.size := ⟨_, rfl⟩
              rw [← hgb] at hr5 ⊢
              have hglt : gb < w5.heap.size := hr5.lt
              clear hrng hone hrow0 hg5 hgb hb5 hO xr Br
              obtain ⟨M, hM⟩ : ∃ M, M = L3 ++ wrN (cSe 64) (ss.take q) := ⟨_, rfl⟩
              rw [← hM] at hO5 hlen HA
              clear hM
              have hdw : Below w5.heap.size w5 w5.drew := ⟨rfl, rfl, rfl, Nat.le_refl _, fun _ _ => rfl⟩
              have SK := (show Hid (∀ u, Row u gb 48 [.int .i64 c, .int .i64 d, .int .i64 k, s] → u.cell? ⟨gb, 0, none⟩ = some (.int .i64 c) ∧ u.cell? ⟨gb, 1, none⟩ = some (.int .i64 d) ∧ u.cell? ⟨gb, 2, none⟩ = some (.int .i64 k) ∧ u.cell? ⟨gb, 3, none⟩ = some (s)) from fun u hu => ⟨hu.cell (j := 0) rfl, hu.cell (j := 1) rfl, hu.cell (j := 2) rfl, hu.cell (j := 3) rfl⟩)
              have HTa := (show Hid (∀ u g, Below B w2 u → OV B u u4 M → Row u gb 48 [.int .i64 c, .int .i64 d, .int .i64 k, s] → Row u g 3 [.int .i64 c, .int .i64 d, .int .i64 k] → Calls Try.prog 22 #[u4, .slice (some ⟨g, 0, none⟩) 3 3] u fun e w' => ∃ v', e = .returned v' ∧ OV B w' v' (M ++ (outI c ++ (outI d ++ outI k))) ∧ Below B w2 w' ∧ Row w' gb 48 [.int .i64 c, .int .i64 d, .int .i64 k, s] ∧ u.heap.size ≤ w'.heap.size ∧ Kpr u w') from fun u g hu hv hr hi => (refNumsU B u u4 M g [c, d, k] hv hi (by omega) (by simp)).mono (by rw [show numsI [c, d, k] = outI c ++ (outI d ++ outI k) by simp [numsI]]; exact fun e w' ⟨v', e1, e2, e3, e4⟩ => ⟨v', e1, e2, hu.trans e3, e4 _ _ _ (by decide) hr, e3.size, e4⟩))
              have HTb := (show Hid (∀ u v, Below B w2 u → OV B u v (M ++ (outI c ++ (outI d ++ outI k))) → Row u gb 48 [.int .i64 c, .int .i64 d, .int .i64 k, s] → Calls Try.prog 23 #[v, s] u fun e w' => ∃ v', e = .returned v' ∧ OV B w' v' ((M ++ (outI c ++ (outI d ++ outI k))) ++ (enc t.length ++ t)) ∧ Below B w2 w' ∧ Row w' gb 48 [.int .i64 c, .int .i64 d, .int .i64 k, s] ∧ u.heap.size ≤ w'.heap.size ∧ Kpr u w') from fun u v hu hv hr => (refTextU B u v _ s t hv (HRR.out u (HX.out u hu).2).1 (by have := outI_len c; have := outI_len d; have := outI_len k; simp only [List.length_append]; omega) (Nat.le_trans (HT3.out _ hym) (by omega))).mono fun e w' ⟨v', e1, e2, e3, e4⟩ => ⟨v', e1, e2, hu.trans e3, e4 _ _ _ (by decide) hr, e3.size, e4⟩)
              have hOa : OV B (w5.alloc (.cells #[.int .i64 c, .int .i64 d, .int .i64 k] 3)) u4 M := hO5.below (below_alloc _ _)
              have hBa : Below B w2 (w5.alloc (.cells #[.int .i64 c, .int .i64 d, .int .i64 k] 3)) := hB5.trans ((below_alloc w5 _).mono hO5.2.2)
              have hra := hr5.below (below_alloc w5 (.cells #[.int .i64 c, .int .i64 d, .int .i64 k] 3))
              have hia : Row (w5.alloc (.cells #[.int .i64 c, .int .i64 d, .int .i64 k] 3)) w5.heap.size 3 [.int .i64 c, .int .i64 d, .int .i64 k] := Row.new w5 3 _
              try go_simp
              go_wp2_with fail
              go_region_held3 (fun u => u.cell? ⟨gb, 0, none⟩ = some (.int .i64 c) ∧ u.cell? ⟨gb, 1, none⟩ = some (.int .i64 d) ∧ u.cell? ⟨gb, 2, none⟩ = some (.int .i64 k) ∧ u.cell? ⟨gb, 3, none⟩ = some (s))
                (first | (with_reducible exact SK.out w7 hr7) | (with_reducible exact SK.out w6 hr6) | (with_reducible exact SK.out w5 hr5) | (with_reducible exact SK.out (w5.alloc _) hra) | (with_reducible exact SK.out w5.drew hr5.drew) | (with_reducible exact SK.out (w5.alloc _).drew hra.drew) | go_keep)
                (first
                  | (go_at_call 23; refine (HTb.out _ _ (by first | (with_reducible exact hB6) | (with_reducible exact hB6.drew)) (by first | (with_reducible exact hO6) | exact ⟨hO6.1.drew, hO6.2⟩) (by first | (with_reducible exact hr6) | exact hr6.drew)).mono ?_; rintro e w7 ⟨v7, rfl, hO7, hB7, hr7, hz7, hk7⟩)
                  | (go_at_call 22; refine (HTa.out _ _ (by first | (with_reducible exact hBa) | (with_reducible exact hBa.drew)) (by first | (with_reducible exact hOa) | exact ⟨hOa.1.drew, hOa.2⟩) (by first | (with_reducible exact hra) | exact hra.drew) (by first | (with_reducible exact hia) | exact hia.drew)).mono ?_; rintro e w6 ⟨v6, rfl, hO6, hB6, hr6, hz6, hk6⟩))
              all_goals (
                have hOz : OV B w7 v7 (L3 ++ wrN (cSe 64) (ss.take (q + 1))) := by
                  rw [← HA.out (outI c ++ (outI d ++ (outI k ++ (enc t.length ++ t)))) rfl]
                  simpa only [List.append_assoc] using hO7
                go_wp2_with fail
                go_roundw
                case rel => exact ⟨q + 1, by omega, by go_num, hOz, hB7⟩
                case measure => simp [intOf]; omega)
            · have hqd : decide ((q : Int) < N3) = false := by simp; omega
              rw [List.take_of_length_le (by have := HN3.out; omega)] at hO
              have hown' : Own wr 5 u4 (bc WA) := by
                rw [HW.out]
                have hown := hO.1
                rw [HL3.out, HL2.out, HL1.out] at hown
                simpa only [List.append_assoc] using hown
              have hfr := hO.2.1
              clear hO
              go_wp2_with fail
              go_ret2
              exact ⟨_, rfl, hown', hfr.mono hBB, Br⟩
end Go.Proofs.Ytejkkhlblnepeaa
end

section
set_option linter.unusedVariables false
set_option linter.unusedSimpArgs false
namespace Go.Proofs.Ytejkkhlblnepeaa
open Go.RowKit Oct Kvl

set_option maxRecDepth 10000 in
set_option maxHeartbeats 4000000 in
theorem encodesN_any (w : World) (r0 : List Value) (a : PApp) (h0 : RApp Any w r0 a) (z0 : szA a) :
    Calls Try.prog 4 #[.agg r0.toArray] w fun e w' => e = .returned (.bool true) ∧ Below w.heap.size w w' := by
  have le := Nat.le_refl w.heap.size
  have hby := snB_byt h0
  have hall := h0
  obtain ⟨ae, ce, al, cl, an, cn, rfl⟩ := formsU h0
  obtain ⟨w0, hw0⟩ : ∃ w0, w0 = w.alloc (.cells #[.int .i64 a.1, .slice ae a.2.1.length ce, .slice al a.2.2.1.length cl, .slice an a.2.2.2.length cn] 27) := ⟨_, rfl⟩
  have xa : Row w0 w.heap.size 27 [.int .i64 a.1, .slice ae a.2.1.length ce, .slice al a.2.2.1.length cl, .slice an a.2.2.2.length cn] := by rw [hw0]; exact Row.new w 27 _
  have B0 : Below w.heap.size w w0 := by rw [hw0]; exact below_alloc _ _
  have hA := snapAlive_any w0
  go_enter Try.func4, Try.ntmps4
  go_upto_region 1 with fail
  rw [← hw0]
  clear hw0 h0
  go_upto_region 3 with (go_at_call 6; refine hA.mono ?_; rintro e w1 ⟨rfl, hb1⟩)
  have xa := xa.below hb1
  have B1 := below_and B0 le hb1
  have hC := refCopyA_any w1 _ a (hall.below B1) z0
  clear hA hb1 B0
  go_upto_region 4 with (first
    | (refine wl_load rfl _ _ rfl w.heap.size rfl _ _ xa _ Try.underlying27 rfl (by kernel_rfl) ?_)
    | (go_at_call 7; refine hC.mono ?_; rintro e w2 ⟨r2, rfl, hr2, hb2⟩; obtain ⟨ae2, ce2, al2, cl2, an2, cn2, rfl⟩ := formsU hr2))
  obtain ⟨w3, hw3⟩ : ∃ w3, w3 = w2.alloc (.cells #[.int .i64 a.1, .slice ae2 a.2.1.length ce2, .slice al2 a.2.2.1.length cl2, .slice an2 a.2.2.2.length cn2] 27) := ⟨_, rfl⟩
  have y3 : Row w3 w2.heap.size 27 [.int .i64 a.1, .slice ae2 a.2.1.length ce2, .slice al2 a.2.2.1.length cl2, .slice an2 a.2.2.2.length cn2] := by rw [hw3]; exact Row.new w2 27 _
  have hb3 : Below w2.heap.size w2 w3 := by rw [hw3]; exact below_alloc _ _
  rw [← hw3]
  have hb13 := below_and hb2 (Nat.le_refl _) hb3
  have B3 := below_and B1 le hb13
  have x3 := xa.below hb13
  have o3 := (mov_app _ _ _ _ _ _ hr2 (Nat.le_refl _) Mv.any).below hb3
  obtain ⟨b3, hb3'⟩ : ∃ b3, b3 = w2.heap.size := ⟨_, rfl⟩
  rw [← hb3'] at y3 ⊢
  clear hw3 hb3' hb3 hb2 hr2 hC xa B1 hb13
  have hE := snapEncode_any w3 _ a o3
  have HF := (show Hid (∀ u, Below w.heap.size w u → Calls Try.prog 9 #[.agg #[.int .i64 a.1, .slice ae a.2.1.length ce, .slice al a.2.2.1.length cl, .slice an a.2.2.2.length cn]] u fun e w' => ∃ v, e = .returned (.tuple #[v, .int .i64 (snE a)]) ∧ Own w' 5 v (bc (snB a)) ∧ Fr u.heap.size v ∧ Below u.heap.size u w') from fun u hu => refEncodeU u _ a (hall.below hu))
  generalize snE a = E at *
  generalize snB a = S at *
  go_upto_region 5 with (first
    | (refine wl_load rfl _ _ rfl b3 rfl _ _ y3 _ Try.underlying27 rfl (by kernel_rfl) ?_)
    | (go_at_call 8; refine hE.mono ?_; rintro e w4 ⟨v4, rfl, ho4, hf4, hb4⟩))
  have B4 := below_and B3 le hb4
  have x4 := x3.below hb4
  have hF := HF.out w4 B4
  go_upto_region 6 with (first
    | (refine wl_load rfl _ _ rfl w.heap.size rfl _ _ x4 _ Try.underlying27 rfl (by kernel_rfl) ?_)
    | (go_at_call 9; refine hF.mono ?_; rintro e w5 ⟨v5, rfl, ho5, hf5, hb5⟩))
  have hb35 := below_and hb4 (Nat.le_refl _) hb5
  have B5 := below_and B3 le hb35
  have x5 := x3.below hb35
  have y5 := y3.below hb35
  have o5 := o3.below hb35
  have hS := same_any w5 v4 v5 S S ((ho4.rd hby).below hb5) (ho5.rd hby)
  rw [decide_eq_true rfl] at hS
  have hT := sameA_eq w5 _ _ a o5 (hall.below B5)
  have hEE : (E == E) = true := by simp
  clear hE hF HF hb4 hb5 hb35 ho4 ho5 hf4 hf5 x3 x4 y3 B3 B4 o3
  go_wp2_with (first
    | (go_at_call 10; refine hS.mono ?_; rintro e w5 ⟨rfl, rfl⟩)
    | (refine wl_load_w (by rfl) _ _ rfl b3 rfl _ _ y5 _ Try.underlying27 rfl (by kernel_rfl) ?_)
    | (refine wl_load_w (by rfl) _ _ rfl w.heap.size rfl _ _ x5 _ Try.underlying27 rfl (by kernel_rfl) ?_)
    | (go_at_call 11; refine hT.mono ?_; rintro e w6 ⟨rfl, hb6⟩))
  go_ret
  exact ⟨rfl, below_and B5 le hb6⟩
end Go.Proofs.Ytejkkhlblnepeaa
end
