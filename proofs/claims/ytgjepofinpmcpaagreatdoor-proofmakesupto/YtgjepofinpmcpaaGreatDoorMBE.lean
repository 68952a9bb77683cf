/- The document's writing: votes. -/
import Derived.Test.YtgjepofinpmcpaaGreatDoorMAY
set_option linter.unusedVariables false
namespace Go.Proofs.YtgjepofinpmcpaaGreatDoor
open Go.RowKit Oct
theorem zE4 {α : Type} {f : α → Nat} : ∀ {ys : List α} {y : α}, y ∈ ys → f y ≤ bS f ys
  | z :: zs, y, h => by
    simp only [bS]
    cases List.mem_cons.1 h with
    | inl e => subst e; omega
    | inr e => have := zE4 (f := f) e; omega
theorem zUk {α : Type} {c : Cdc α} {f : α → Nat} {k : Nat} (h : ∀ y, (c.wr y).length ≤ k * f y) : ∀ ys : List α, (wrN c ys).length ≤ k * bS f ys
  | [] => by simp [wrN]
  | y :: ys => by
    have h1 := h y
    have h2 := zUk h ys
    rw [zHh, List.length_append]
    simp only [bS, Nat.mul_add]
    omega
theorem zTp {α : Type} (c : Cdc α) (ys : List α) (q : Nat) : (wrN c (ys.take q)).length ≤ (wrN c ys).length := by
  have := congrArg List.length (zN4 c (ys.take q) (ys.drop q))
  rw [List.take_append_drop, List.length_append] at this
  omega
theorem zP7 (t : List Int) : (cT.wr t).length ≤ 10 + t.length := by
  show (enc t.length ++ t).length ≤ _
  have := zB7 (t.length : Int)
  rw [List.length_append]
  omega
theorem zDl (y : zAy) : (zAi.wr y).length ≤ 20 * bV y := by
  show (zCm y.1 ++ cT.wr y.2).length ≤ _
  have h1 := zBl y.1
  have h2 := zP7 y.2
  rw [List.length_append]
  simp only [bV, bT]
  omega
def Lq {α : Type} (c : Cdc α) (L : List Int) (ys : List α) (q : Nat) : List Int := L ++ (zCm ys.length ++ wrN c (ys.take q))
def Bq {α : Type} (c : Cdc α) (bad : Bool) (ys : List α) (q : Nat) : Bool := (bad || !cMn.ok (ys.length : Int)) || !((ys.take q).all c.ok)
theorem zHr {α : Type} (c : Cdc α) (L : List Int) (ys : List α) : L ++ cMn.wr (ys.length : Int) = Lq c L ys 0 := by
  show L ++ zCm _ = L ++ (zCm _ ++ wrN c (ys.take 0))
  simp [wrN]
theorem zIa {α : Type} (c : Cdc α) (bad : Bool) (ys : List α) : (bad || !cMn.ok (ys.length : Int)) = Bq c bad ys 0 := by simp [Bq]
theorem zIo {α : Type} (c : Cdc α) (L : List Int) (ys : List α) {q : Nat} {a : α} (h : ys[q]? = some a) : Lq c L ys q ++ c.wr a = Lq c L ys (q + 1) := by
  unfold Lq
  rw [zBa ys q a h, zN4, zU7]
  simp [List.append_assoc]
theorem zIp {α : Type} (c : Cdc α) (bad : Bool) (ys : List α) {q : Nat} {a : α} (h : ys[q]? = some a) : (Bq c bad ys q || !c.ok a) = Bq c bad ys (q + 1) := by
  unfold Bq
  rw [zBa ys q a h, List.all_append]
  simp [Bool.or_assoc]
theorem zHv {α : Type} (c : Cdc α) (L : List Int) (ys : List α) : Lq c L ys ys.length = L ++ (cL c).wr ys := by simp [Lq, cL]
theorem zMc {α : Type} (c : Cdc α) (bad : Bool) (ys : List α) (h : ys.length ≤ 2147483647) : Bq c bad ys ys.length = (bad || !(cL c).ok ys) := by
  have h1 : okI (ys.length : Int) = true := zBm (by omega) (by omega)
  have h2 : decide ((ys.length : Int) ≤ 64) = decide (ys.length ≤ 64) := by rw [decide_eq_decide]; omega
  simp only [Bq, List.take_length, cL, cMn, h1, Bool.true_and, h2]
  simp [Bool.or_assoc]
theorem zI7 {α : Type} (c : Cdc α) {f : α → Nat} (h : ∀ y, (c.wr y).length ≤ 20 * f y) (L : List Int) (ys : List α) (q : Nat) : (Lq c L ys q).length ≤ L.length + 20 * bL f ys := by
  unfold Lq
  have h1 := zBl (ys.length : Int)
  have h2 := zTp c ys q
  have h3 := zUk h ys
  rw [List.length_append, List.length_append]
  simp only [bL, Nat.mul_add]
  omega
theorem zIs {α : Type} {f : α → Nat} (h : ∀ y, 1 ≤ f y) : ∀ ys : List α, ys.length ≤ bS f ys
  | [] => zN
  | y :: ys => by have := h y; have := zIs h ys; simp only [bS, List.length_cons]; omega
set_option maxRecDepth 10000 in
set_option maxHeartbeats 4000000 in
theorem zD5 (w0 w : World) (sv : Value) (bad : Bool) (L : List Int) (lv : Value) (ys : List zAy) (hB0 : Below w0.heap.size w0 w) (hf : Fr w0.heap.size sv) (hown : Own w 5 sv (bc L)) (hr : RL zAz 2 Any w0 lv ys) (hl : L.length + bL bV ys * 20 ≤ 140720000000000) (hz : bL bV ys ≤ 2000000) :
    Calls Tryz.prog 103 #[.agg #[sv, .bool bad], lv] w (zCb (cL zAi) ys w sv bad L) := by
  obtain ⟨ao, cap, rfl, hcap⟩ := hr.form
  obtain ⟨w2, hw2⟩ : ∃ w2, w2 = (w.alloc (.cells #[sv, .bool bad] 109)).alloc (.cells #[.slice none 0 0, .bool false] 109) := ⟨_, rfl⟩
  have ra : Row w2 w.heap.size 109 [sv, .bool bad] := by rw [hw2]; exact zA4 (Row.new w _ _) _
  have rr : Row w2 (w.heap.size + 1) 109 [.slice none 0 0, .bool false] := by
    rw [hw2]
    have := Row.new (w.alloc (.cells #[sv, .bool bad] 109)) 109 [.slice none 0 0, .bool false]
    simpa using this
  have hB : Below w.heap.size w w2 := by rw [hw2]; exact ((Below.refl _ w).alloc zN _).alloc (by simp) _
  have hoL := hown.below hB
  have hne1 := zA6 ra hoL (by decide)
  have hne2 := zA6 rr hoL (by decide)
  have c0 := ra.cell (j := 0) rfl
  have c1 := ra.cell (j := 1) rfl
  have hM := zCz w2 sv bad L (ys.length : Int) hoL (by omega)
  go_enter Tryz.func103, Tryz.ntmps103
  go_upto_region 1 with fail
  rw [← hw2]
  clear hw2
  go_wp2_with fail
  refine hM.mono ?_
  rintro e w3 ⟨v3, rfl, happ3⟩
  obtain ⟨ao3, n3, k3, rfl⟩ := zAg happ3.own
  have ra3 := ra.grown happ3.grown hne1
  have rr3 := rr.grown happ3.grown hne2
  have hap3 := App.pre hB happ3
  clear hM c0 c1 happ3 ra rr hown hoL
  go_wp2_with (refine zA7 rfl _ _ _ rfl w.heap.size [.slice ao3 n3 k3, .bool (bad || !cMn.ok (ys.length : Int))] rfl rfl _ _ ra3 rfl (by kernel_rfl) zC9 ?_; intro w4 hr4 hg4)
  have hr4 := hr4.out
  have rr4 := rr3.grown hg4 (fun e => by injection e; omega)
  have ha4 := App.after hap3 zN hg4 (zA6 ra3 hap3.own (by decide))
  rw [zHr zAi] at ha4
  rw [zIa zAi] at hr4
  have hlen := zIs (f := bV) (fun y => by simp only [bV]; omega) ys
  have hlz : ys.length ≤ 2000000 := by simp only [bL] at hz; omega
  have HX := (show Hid (0 < ys.length → ∃ b off, ao = some ⟨b, off, none⟩ ∧ b < w0.heap.size ∧ ∀ (i : Nat) (a : zAy), ys[i]? = some a → ∃ r, r.length = 2 ∧ w0.rangeAt b (off + i * 2) r ∧ zAz Any w0 r a) from fun h0 => by
    obtain ⟨b, off, c', e, _, _, _, hbb, hx⟩ := hr.at h0
    injection e with e1 e2 e3
    exact ⟨b, off, e1, hbb, hx⟩)
  have HLE := (show Hid (∀ q, (Lq zAi L ys q).length ≤ 140720000000000) from fun q => by have := zI7 zAi zDl L ys q; omega)
  have HZ := (show Hid (∀ y ∈ ys, y.2.length ≤ 2147483647) from fun y hy => by have := zE4 (f := bV) hy; simp only [bV, bT] at this; simp only [bL] at hz; omega)
  have HBA := (show Hid (Bq zAi bad ys ys.length = (bad || !(cL zAi).ok ys)) from zMc _ _ _ (by omega))
  clear hap3 ra3 rr3 hg4 hr hlen hl hz hB hne1 hne2
  generalize Value.agg #[Value.slice ao3 n3 k3, Value.bool (bad || !cMn.ok (ys.length : Int))] = junk at *
  go_loopw [13] (fun i wr => ∃ (q : Nat) (ak : Option Addr) (nk ck : Nat), q ≤ ys.length ∧ i = .int .i64 q ∧ Row wr w.heap.size 109 [.slice ak nk ck, .bool (Bq zAi bad ys q)] ∧ Row wr (w.heap.size + 1) 109 [.slice none 0 0, .bool false] ∧ App w 5 sv wr (.slice ak nk ck) (bc (Lq zAi L ys q))) (fun i _ => ys.length - (intOf i).toNat)
  case atStart => exact ⟨0, ao3, n3, k3, by omega, rfl, hr4, rr4, ha4⟩
  case round =>
    clear hr4 rr4 ha4
    obtain ⟨q, ak, nk, ck, hq, rfl, ra5, rr5, ha5⟩ := hrel
    by_cases hql : q < ys.length
    · obtain ⟨b, off, rfl, hbb, hx⟩ := HX.out (by omega)
      obtain ⟨a, ha⟩ : ∃ a, ys[q]? = some a := ⟨_, List.getElem?_eq_getElem hql⟩
      obtain ⟨r, _, hrng, s, rfl, hs⟩ := hx q a ha
      have hz' := HZ.out a (List.mem_of_getElem? ha)
      have hBr := hB0.trans (ha5.below hf hB0.size)
      have hrng := zAw hrng (hBr.block b hbb)
      have hso := hs.one
      obtain ⟨so, sc, rfl, _⟩ := hs.form
      have hrow0 := Row.new wr 58 [.int .i64 0, .slice none 0 0]
      have HSL := (show Hid (Lq zAi L ys q ++ zAi.wr a = Lq zAi L ys (q + 1)) from zIo _ _ _ ha)
      have HSB := (show Hid ((Bq zAi bad ys q || !zAi.ok a) = Bq zAi bad ys (q + 1)) from zIp _ _ _ ha)
      clear ha hx
      go_wp2_with (first
        | (refine wpList_load_mid rfl _ _ rfl b (off + q * 2) rfl [.int .i64 a.1, .slice so a.2.length sc] _ hrng Tryz.underlying58 rfl (by kernel_rfl) ?_)
        | (refine zA7 rfl _ _ _ rfl wr.heap.size [.int .i64 a.1, .slice so a.2.length sc] rfl rfl _ _ hrow0 rfl (by kernel_rfl) (one2 hso) ?_; intro w5 hr5 hg5))
      have hb5 : Below wr.heap.size wr w5 := (zA0 wr (.cells ([.int .i64 0, .slice none 0 0] : List Value).toArray 58)).trans (zA5 hg5 (by simp) (fun k hk => by cases hk; exact zN))
      have rv := hr5.out
      have ra6 := ra5.below hb5
      have rr6 := rr5.below hb5
      have hB5 := zA1 hBr zN hb5
      have ho5 := ha5.own.below hb5
      have ha5' : App w 5 sv w5 (.slice ak nk ck) (bc (Lq zAi L ys q)) := ⟨ho5, zA2 ha5.grown (zA8 hb5 none) (.inr fun k hk => by cases hk), ha5.spot⟩
      have hf5 : Fr w0.heap.size (.slice ak nk ck) := ha5.fr hf hB0.size
      have hn0 := zA6 ra6 ho5 (by decide)
      have hn1 := zA6 rr6 ho5 (by decide)
      have hnv := zA6 rv ho5 (by decide)
      have hdw : Below w5.heap.size w5 w5.drew := ⟨rfl, rfl, rfl, zN, fun _ _ => rfl⟩
      have p0 := ra6.cell (j := 0) rfl
      have p1 := ra6.cell (j := 1) rfl
      have p2 := rv.cell (j := 0) rfl
      have p3 := rv.cell (j := 1) rfl
      have HN := (show Hid (∀ _ : Unit, _) from fun _ => zAq w5.drew (.slice ak nk ck) (Bq zAi bad ys q) (Lq zAi L ys q) a.1 ho5.drew (Nat.le_trans (HLE.out q) (by decide)))
      have HLn := (show Hid ((Lq zAi L ys q ++ cN.wr a.1).length ≤ 140730000000000) by show _ ≤ _; have := HLE.out q; have h9 := zBl a.1; rw [List.length_append]; show _ + (zCm a.1).length ≤ _; omega)
      have HRD := (show Hid (∀ u, w5.grownBy u (Value.slice ak nk ck).ownBlock → Rd u (.slice so a.2.length sc) a.2) from fun u hu => ((hs.mv (Mv.below (hB5.trans (zA5 hu hB5.size hf5)))).1))
      clear hrng hrow0 hg5 hr5 ra5 rr5 ha5 hs hb5
      go_wp2_with fail
      go_region_law (first
        | (go_simp; go_at_call 102; refine (zC1 w6 _ _ _ _ _ a6.own (HRD.out w6 a6.grown) HLn.out hz').mono ?_; rintro e w7 ⟨v7, rfl, q7⟩; have a7 := a6.trans q7; obtain ⟨ao7, n7, c7, rfl⟩ := zAg a7.own; have ra7 := ra6.grown a7.grown hn0; have d0 := ra7.cell (j := 0) rfl; have d1 := ra7.cell (j := 1) rfl; have z0 := ra7.frozen 0; have z1 := ra7.frozen 1)
        | (go_simp; go_at_call 59; refine (HN.out ()).mono ?_; rintro e w6 ⟨v6, rfl, q6⟩; have a6 := App.pre hdw q6; have p4 := (rv.grown a6.grown hnv).cell (j := 1) rfl))
      all_goals (
        have e1 : (Lq zAi L ys q ++ cN.wr a.1) ++ cT.wr a.2 = Lq zAi L ys (q + 1) := by rw [← HSL.out, List.append_assoc]; rfl
        have e2 : ((Bq zAi bad ys q || !cN.ok a.1) || !cT.ok a.2) = Bq zAi bad ys (q + 1) := by rw [← HSB.out]; simp [zAi, cP, Bool.or_assoc]
        have hb7 := App.box (ha5'.trans a7) zN ra7 (.slice ao7 n7 c7) (.bool ((Bq zAi bad ys q || !cN.ok a.1) || !cT.ok a.2))
        have hr7 := (ra7.set 0 (.slice ao7 n7 c7)).set 1 (.bool ((Bq zAi bad ys q || !cN.ok a.1) || !cT.ok a.2))
        have rr7 := (((rr6.grown a7.grown hn1).grown (zAd w7 w.heap.size 0 (.slice ao7 n7 c7)) (fun e => by injection e; omega)).grown (zAd (w7.setCell ⟨w.heap.size, 0, none⟩ (.slice ao7 n7 c7)) w.heap.size 1 (.bool ((Bq zAi bad ys q || !cN.ok a.1) || !cT.ok a.2))) (fun e => by injection e; omega))
        rw [e1] at hb7
        have HR := (show Hid (Row _ w.heap.size 109 [.slice ao7 n7 c7, .bool ((Bq zAi bad ys q || !cN.ok a.1) || !cT.ok a.2)]) from hr7)
        rw [e2] at hb7 HR rr7 ⊢
        clear hr7 e1 e2 p0 p1 p2 p3
        go_wp2_with fail
        go_roundw
        case rel => exact ⟨q + 1, ao7, n7, c7, by omega, by go_num, HR.out, rr7, hb7⟩
        case measure => simp [intOf]; omega)
    · obtain rfl : q = ys.length := by omega
      rw [HBA.out] at ra5
      rw [zHv] at ha5
      go_wp2_with (first
        | (refine zAa rfl _ _ rfl w.heap.size rfl _ _ ra5 _ Tryz.underlying109 rfl (by kernel_rfl) ?_)
        | (refine zA7 rfl _ _ _ rfl (w.heap.size + 1) [.slice ak nk ck, .bool (bad || !(cL zAi).ok ys)] rfl rfl _ _ rr5 rfl (by kernel_rfl) zC9 ?_; intro w6 hr6 hg6))
      have hr6 := hr6.out
      refine bodyPost_ret (v := .agg ([.slice ak nk ck, .bool (bad || !(cL zAi).ok ys)] : List Value).toArray) (results_cell_row rfl _ _ (w.heap.size + 1) _ _ (0, 0) _ (by rfl) hr6 Tryz.underlying109 rfl (by kernel_rfl)) rfl ?_
      exact ⟨_, rfl, App.after ha5 (Nat.le_succ _) hg6 (zA6 rr5 ha5.own (by decide))⟩
end Go.Proofs.YtgjepofinpmcpaaGreatDoor
