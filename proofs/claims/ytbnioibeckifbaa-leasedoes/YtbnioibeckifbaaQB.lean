/- catenarylaw08.LeaseDoes: its walk. -/
import Derived.Test.YtbnioibeckifbaaQE
import Derived.Laws.BitsAllLaws
import Derived.Test.YtbnioibeckifbaaQD
import Derived.Test.YtbnioibeckifbaaQC
section
set_option linter.unusedVariables false
set_option linter.unusedSimpArgs false
namespace Go.Proofs.Ytbnioibeckifbaa
open Go.RowKit Oct Kvl

theorem flat_inv {k : Nat} : ∀ {rows : List (List Value)} {j : Nat} {v : Value}, (∀ r ∈ rows, r.length = k) → rows.flatten[j]? = some v → ∃ i r j', j = i * k + j' ∧ rows[i]? = some r ∧ r[j']? = some v
  | [], j, v, _, h => by simp at h
  | x :: rows, j, v, hk, h => by
    have hx := hk x (by simp)
    rw [List.flatten_cons] at h
    rcases Nat.lt_or_ge j x.length with hj | hj
    · rw [List.getElem?_append_left hj] at h
      exact ⟨0, x, j, by omega, rfl, h⟩
    · rw [List.getElem?_append_right hj] at h
      obtain ⟨i, r, j', e, h1, h2⟩ := flat_inv (rows := rows) (fun y hy => hk y (by simp [hy])) h
      refine ⟨i + 1, r, j', ?_, by simpa using h1, h2⟩
      rw [Nat.add_mul]
      omega
theorem owns_up {w : World} {B : Nat} {e : TypeId} {k : Nat} {v : Value} {n : Nat} {xs : List Value} (h : w.ownsRow 0 e k v n xs) (hf : Fr B v) : w.ownsRow B e k v n xs :=
  ⟨h.1, by
    rcases h.2 with h | ⟨g, cap, cur, rfl, _, r⟩
    · exact .inl h
    · exact .inr ⟨g, cap, cur, rfl, hf g rfl, r⟩⟩
theorem owns_dn {w : World} {B : Nat} {e : TypeId} {k : Nat} {v : Value} {n : Nat} {xs : List Value} (h : w.ownsRow B e k v n xs) : w.ownsRow 0 e k v n xs ∧ Fr B v :=
  ⟨⟨h.1, by
    rcases h.2 with h | ⟨g, cap, cur, h1, _, r⟩
    · exact .inl h
    · exact .inr ⟨g, cap, cur, h1, Nat.zero_le _, r⟩⟩, fun k hk => (h.lt k hk).1⟩
/-- Entries of another slice are put behind those of the call's own. -/
theorem wl_addN {w0 w : World} {B : Nat} {ops : Array Oper} {rest : List Oper} {o : Oper} {a : Act} {Q : Exit → Act → World → Prop} (hgd : o.guard = none) (s x : Operand)
    (ho : o.op = .call { callee := .builtin .append, args := #[s, x], argTypes := #[22, 22] }) (v : Value) (zs : List PEnt) (hs : a.eval s = v) (hL : LB (RS w0) 37 2 B w v zs) (hB : B ≤ w.heap.size)
    (b off m c : Nat) (src : List (List Value)) (us : List PEnt) (hx : a.eval x = .slice (some ⟨b, off, none⟩) m c) (hm : src.length = m) (h2 : ∀ r ∈ src, r.length = 2) (hc : ∀ (i : Nat) (r : List Value), src[i]? = some r → w.rangeAt b (off + i * 2) r)
    (hA : All2 (RS w0 Any w0) src us) (hb : zs.length + m ≤ 1000)
    (h : ∀ v' w', LB (RS w0) 37 2 B w' v' (zs ++ us) → w.grownBy w' v.ownBlock → wpList Try.prog ops Q rest (a.put o.dst v') w') : wpList Try.prog ops Q (o :: rest) a w := by
  obtain ⟨i0, hi, hz0, hz1, hz2⟩ := info_parts Try.infE
  obtain ⟨rows, h0, hown, hfr, hall⟩ := hL
  have hlen := hall.len
  have h1 : ∀ u ∈ src.flatten, u.oneCell' = true := by
    intro u hu
    obtain ⟨q, hq, huq⟩ := List.mem_flatten.1 hu
    obtain ⟨k, hk, rfl⟩ := List.getElem_of_mem hq
    have := hA.get (List.getElem?_eq_getElem hk) (List.getElem?_eq_getElem (by rw [← hA.len]; exact hk))
    exact one_RE (this w0 (Below.refl _ _)) u huq
  refine wpList_append_own w hgd s x _ ho B 37 i0 _ 2 48 Try.underlying22 hi hz0 hz1 hz2 rfl (by decide) v rows.length rows.flatten hs (owns_up hown hfr) ⟨b, off, none⟩ m c src.flatten hx (by rw [flat_len h2, hm])
    (fun j u hj => by
      obtain ⟨i, r, j', e, g1, g2⟩ := flat_inv h2 hj
      rw [Addr.add_mid, e, ← Nat.add_assoc]
      exact hc i r g1 j' u g2) h1 (by unfold maxLen; omega) (by omega) hB ?_
  intro v' w' hown' hgr _
  obtain ⟨o1, o2⟩ := owns_dn hown'
  refine h v' w' ⟨rows ++ src, fun r hr => ?_, ?_, o2, All2.app (hall.mono fun _ _ h => h) (hA.mono fun _ _ h => h)⟩ hgr
  · rcases List.mem_append.1 hr with hr | hr
    · exact h0 r hr
    · exact h2 r hr
  · rw [List.length_append, List.flatten_append, hm]
    exact o1

/-- The end of the document's Do. -/
def Rq (w : World) (x : List PEnt × Int × List Int) (e : Ending) (w' : World) : Prop :=
  ∃ v' vv, e = .returned (.tuple #[v', .agg #[.int .i64 x.2.1, vv]]) ∧ RL REnt 2 Any w' v' x.1 ∧ Rd w' vv x.2.2 ∧ Below w.heap.size w w'
theorem fI_get {n : List Int} {l : List PEnt} (h : rgtL l) : fI n l = if getR n l = none then -1 else (pos n l : Int) := by
  have := fst_pos (n := n) h.2.1
  split
  · rename_i hg
    rw [if_pos hg] at this
    exact fI_none this
  · rename_i hg
    rw [if_neg hg] at this
    exact fI_some this

set_option maxRecDepth 10000 in
set_option maxHeartbeats 8000000 in
/-- The document's Do. -/
theorem refDo_any (w : World) (v : Value) (ys : List PEnt) (h : RL REnt 2 Any w v ys) (r : List Value) (o : POp) (ho : ROp Any w r o) :
    Calls Try.prog 12 #[v, .agg r.toArray] w (Rq w (doL ys o)) := by
  have le := Nat.le_refl w.heap.size
  have hall := ho
  obtain ⟨ao, cap, rfl, hcap⟩ := h.form
  obtain ⟨k, on, oa, ob, u⟩ := o
  obtain ⟨vn, va, vb, rfl, rn, ra', rb'⟩ := ho
  simp only at rn ra' rb'
  obtain ⟨an, cn, rfl, hcn⟩ := rn.form
  obtain ⟨aa, ca, rfl, hca⟩ := ra'.form
  obtain ⟨ab, cb, rfl, hcb⟩ := rb'.form
  obtain ⟨w0, hw0⟩ : ∃ w0, w0 = (w.alloc (.cells #[.int .i64 k, .slice an on.length cn, .slice aa oa.length ca, .slice ab ob.length cb, .int .i64 u] 25)).alloc (.cells #[.int .i64 0, .slice none 0 0] 30) := ⟨_, rfl⟩
  have x0 : Row w0 w.heap.size 25 [.int .i64 k, .slice an on.length cn, .slice aa oa.length ca, .slice ab ob.length cb, .int .i64 u] := by rw [hw0]; exact rowA (Row.new w 25 _) _
  have r0 : Row w0 (w.heap.size + 1) 30 [.int .i64 0, .slice none 0 0] := by
    rw [hw0]
    have := Row.new (w.alloc (.cells #[.int .i64 k, .slice an on.length cn, .slice aa oa.length ca, .slice ab ob.length cb, .int .i64 u] 25)) 30 [.int .i64 0, .slice none 0 0]
    simpa using this
  have B0 : Below w.heap.size w w0 := by rw [hw0]; exact below_and (below_alloc _ _) le (below_alloc _ _)
  have hs0 : w.heap.size + 2 ≤ w0.heap.size := by rw [hw0]; simp
  have HE := (show Hid (∀ z, Below w.heap.size w z → RL REnt 2 Any z (.slice ao ys.length cap) ys) from fun z hu => h.mv mov_ent hu.size (Mv.below hu))
  have HO := (show Hid (∀ z, Below w.heap.size w z → ROp Any z [.int .i64 k, .slice an on.length cn, .slice aa oa.length ca, .slice ab ob.length cb, .int .i64 u] (k, on, oa, ob, u)) from fun z hu => mov_op _ _ _ _ _ _ hall hu.size (Mv.below hu))
  have HT := (show Hid (RT Any w (.slice an on.length cn) on ∧ RT Any w (.slice aa oa.length ca) oa ∧ RT Any w (.slice ab ob.length cb) ob) from ⟨rn, ra', rb'⟩)
  have HV := (show Hid (RL REnt 2 Any w (.slice ao ys.length cap) ys) from h)
  have FB := (show Hid (∀ {wa wb : World} (c : Int) (vv : Value) (l : List Int), doL ys (k, on, oa, ob, u) = (ys, c, l) → RT Any w vv l → Below w.heap.size w wa → wa.grownBy wb (some (w.heap.size + 1)) → Rq w (doL ys (k, on, oa, ob, u)) (.returned (.tuple #[.slice ao ys.length cap, .agg #[.int .i64 c, vv]])) wb) from fun {wa wb} c vv l hd hv hb hg => by
    have hB := hb.trans (grown_below hg hb.size (fun j hj => by cases hj; omega))
    exact ⟨_, vv, by rw [hd], by rw [hd]; exact HE.out wb hB, by rw [hd]; exact (hv.mv (Mv.below hB)).1, hB⟩)
  have FL := (show Hid (∀ {wa wb : World} (vx : Value) (zs : List PEnt) (B : Nat), doL ys (k, on, oa, ob, u) = (zs, 0, []) → LB (RS w) 37 2 B wa vx zs → w.heap.size + 2 ≤ B → Below w.heap.size w wa → wa.grownBy wb (some (w.heap.size + 1)) → Rq w (doL ys (k, on, oa, ob, u)) (.returned (.tuple #[vx, .agg #[.int .i64 0, .slice none 0 0]])) wb) from fun {wa wb} vx zs B hd hL h2 hb hg => by
    have hB := hb.trans (grown_below hg hb.size (fun j hj => by cases hj; omega))
    have hL' := hL.grownS hg (fun e => by have := hL.fr _ e; omega)
    exact ⟨vx, _, by rw [hd], by rw [hd]; exact hL'.rs hB, by rw [hd]; exact (RT.nil Any wb).1, hB⟩)
  have hR := refRight_any w0 _ ys (HE.out w0 B0)
  clear hall rn ra' rb' hcn hca hcb h
  go_enter Try.func12, Try.ntmps12
  go_upto_region 1 with fail
  rw [← hw0]
  clear hw0
  by_cases hr : rgtL ys
  rotate_left
  · rw [decide_eq_false hr] at hR
    have hd := (show Hid (_ = _) from do_bad (l := ys) (o := (k, on, oa, ob, u)) (fun h => hr h.1))
    go_wp2_with (first
      | (go_at_call 14; refine hR.mono ?_; rintro e w1 ⟨rfl, hb1⟩; have r1 := r0.below hb1)
      | (refine wl_store rfl _ _ _ rfl (w.heap.size + 1) [.int .i64 5, .slice none 0 0] rfl rfl _ _ r1 rfl (by kernel_rfl) (one_res rfl) ?_; intro w9 hr9 hg9))
    refine bodyPost_ret (results_tc rfl _ _ (w.heap.size + 1) _ _ (0, 0) _ (by rfl) hr9.out Try.underlying30 rfl (by kernel_rfl)) rfl ?_
    exact FB.out 5 _ [] hd.out (RT.nil _ _) (below_and B0 le hb1) hg9
  rw [decide_eq_true hr] at hR
  have HP := (show Hid (∀ z, Below w.heap.size w z → Calls Try.prog 32 #[.agg #[.int .i64 k, .slice an on.length cn, .slice aa oa.length ca, .slice ab ob.length cb, .int .i64 u]] z fun e w' => e = .returned (.bool (decide (wok (k, on, oa, ob, u)))) ∧ Below z.heap.size z w') from fun z hz => rightOp_any z _ _ (HO.out z hz))
  by_cases hw : wok (k, on, oa, ob, u)
  rotate_left
  · rw [decide_eq_false hw] at HP
    have hd := (show Hid (_ = _) from do_bad (l := ys) (o := (k, on, oa, ob, u)) (fun h => hw h.2.1))
    go_wp2_with (first
      | (go_at_call 14; refine hR.mono ?_; rintro e w1 ⟨rfl, hb1⟩; have x1 := x0.below hb1; have B1 := below_and B0 le hb1)
      | (refine wl_load_w (by rfl) _ _ rfl w.heap.size rfl _ _ x1 _ Try.underlying25 rfl (by kernel_rfl) ?_)
      | (go_at_call 32; refine (HP.out w1 B1).mono ?_; rintro e w2 ⟨rfl, hb2⟩; have r2 := (r0.below hb1).below hb2)
      | (refine wl_store rfl _ _ _ rfl (w.heap.size + 1) [.int .i64 5, .slice none 0 0] rfl rfl _ _ r2 rfl (by kernel_rfl) (one_res rfl) ?_; intro w9 hr9 hg9))
    refine bodyPost_ret (results_tc rfl _ _ (w.heap.size + 1) _ _ (0, 0) _ (by rfl) hr9.out Try.underlying30 rfl (by kernel_rfl)) rfl ?_
    exact FB.out 5 _ [] hd.out (RT.nil _ _) (below_and B1 le hb2) hg9
  rw [decide_eq_true hw] at HP
  by_cases hk : k ≤ 4
  rotate_left
  · have hd := (show Hid (_ = _) from do_bad (l := ys) (o := (k, on, oa, ob, u)) (fun h => hk h.2.2))
    have hk' : 4 < k := by omega
    go_wp2_with (first
      | (go_at_call 14; refine hR.mono ?_; rintro e w1 ⟨rfl, hb1⟩; have x1 := x0.below hb1; have B1 := below_and B0 le hb1)
      | (refine wl_load_w (by rfl) _ _ rfl w.heap.size rfl _ _ x1 _ Try.underlying25 rfl (by kernel_rfl) ?_)
      | (go_at_call 32; refine (HP.out w1 B1).mono ?_; rintro e w2 ⟨rfl, hb2⟩; have r2 := (r0.below hb1).below hb2; have c2 := (x1.below hb2).cell (j := 0) rfl)
      | (refine wl_store rfl _ _ _ rfl (w.heap.size + 1) [.int .i64 5, .slice none 0 0] rfl rfl _ _ r2 rfl (by kernel_rfl) (one_res rfl) ?_; intro w9 hr9 hg9))
    refine bodyPost_ret (results_tc rfl _ _ (w.heap.size + 1) _ _ (0, 0) _ (by rfl) hr9.out Try.underlying30 rfl (by kernel_rfl)) rfl ?_
    exact FB.out 5 _ [] hd.out (RT.nil _ _) (below_and B1 le hb2) hg9
  have hk' : decide (4 < k) = false := by simp; omega
  have hd := (show Hid (doL ys (k, on, oa, ob, u) = doR ys (k, on, oa, ob, u)) from do_yes (l := ys) (o := (k, on, oa, ob, u)) hr hw hk)
  go_upto_region 3 with (first
    | (go_at_call 14; refine hR.mono ?_; rintro e w1 ⟨rfl, hb1⟩; have x1 := x0.below hb1; have B1 := below_and B0 le hb1)
    | (refine wl_load_w (by rfl) _ _ rfl w.heap.size rfl _ _ x1 _ Try.underlying25 rfl (by kernel_rfl) ?_)
    | (go_at_call 32; refine (HP.out w1 B1).mono ?_; rintro e w2 ⟨rfl, hb2⟩; have r2 := (r0.below hb1).below hb2; have c2 := (x1.below hb2).cell (j := 0) rfl))
  have x2 := x1.below hb2
  have B2 := below_and B1 le hb2
  have s2 : w.heap.size + 2 ≤ w2.heap.size := by have := hb1.size; have := hb2.size; omega
  clear hR HP r0 x0 x1 B0 B1 hb1 hb2 c2 hk' hs0
  have hF := refFind_any w2 _ ys (HE.out w2 B2) _ on (HT.out.1.mv (Mv.below B2)).1
  rw [fI_get hr] at hF
  have b1 := x2.cell (j := 1) rfl
  go_upto_region 4 with (go_at_call 33; refine hF.mono ?_; rintro e w3 ⟨rfl, hb3⟩)
  have x3 := x2.below hb3
  have r3 := r2.below hb3
  have B3 := below_and B2 le hb3
  have s3 : w.heap.size + 2 ≤ w3.heap.size := by have := hb3.size; omega
  have d0 := x3.cell (j := 0) rfl
  have d1 := x3.cell (j := 1) rfl
  have d2 := x3.cell (j := 2) rfl
  have d3 := x3.cell (j := 3) rfl
  clear hF b1 x2 r2 B2 s2 hb3
  have HRG := (show Hid (rgtL ys) from hr)
  have HD := hd
  have HK := (show Hid ((1 ≤ k) ∧ k ≤ 4) from ⟨hw.1.1, hk⟩)
  clear hr hw hk hd
  have HW1 := (show Hid (Calls Try.prog 34 #[.slice ao ys.length cap, .slice an on.length cn, .slice aa oa.length ca] w3 fun e w' => ∃ v', e = .returned v' ∧ LB (RS w) 37 2 w3.heap.size w' v' (putR on oa ys) ∧ Below w3.heap.size w3 w') by
    have := refWith_any w w3 B3 _ ys HV.out HRG.out.1 _ _ on oa HT.out.1 HT.out.2.1
    rw [wi_put HRG.out.2.1] at this
    exact this)
  cases hg : getR on ys with
  | none =>
    rw [if_pos rfl]
    have HG := (show Hid (getR on ys = none) from hg)
    clear hg
    by_cases k2 : k = 2
    rotate_left
    · have k2' : (k != 2) = true := by simp [k2]
      have HDD := (show Hid (doL ys (k, on, oa, ob, u) = (ys, 1, [])) by show _ = _; rw [HD.out]; unfold doR; simp only; rw [HG.out]; exact if_neg k2)
      clear k2
      go_wp2_with (first
        | (refine wl_store rfl _ _ _ rfl (w.heap.size + 1) [.int .i64 1, .slice none 0 0] rfl rfl _ _ r3 rfl (by kernel_rfl) (one_res rfl) ?_; intro w9 hr9 hg9))
      refine bodyPost_ret (results_tc rfl _ _ (w.heap.size + 1) _ _ (0, 0) _ (by rfl) hr9.out Try.underlying30 rfl (by kernel_rfl)) rfl ?_
      exact FB.out 1 _ [] HDD.out (RT.nil _ _) B3 hg9
    subst k2
    by_cases h64 : ys.length = 64
    · have HDD := (show Hid (doL ys (2, on, oa, ob, u) = (ys, 3, [])) by show _ = _; rw [HD.out]; unfold doR; simp only; rw [HG.out]; simp only [if_true]; exact if_pos (by omega))
      have h64' : ((ys.length : Int) == 64) = true := by simp [h64]
      clear h64
      go_wp2_with (first
        | (refine wl_store rfl _ _ _ rfl (w.heap.size + 1) [.int .i64 3, .slice none 0 0] rfl rfl _ _ r3 rfl (by kernel_rfl) (one_res rfl) ?_; intro w9 hr9 hg9))
      refine bodyPost_ret (results_tc rfl _ _ (w.heap.size + 1) _ _ (0, 0) _ (by rfl) hr9.out Try.underlying30 rfl (by kernel_rfl)) rfl ?_
      exact FB.out 3 _ [] HDD.out (RT.nil _ _) B3 hg9
    have HDD := (show Hid (doL ys (2, on, oa, ob, u) = (putR on oa ys, 0, [])) by show _ = _; rw [HD.out]; unfold doR; simp only; rw [HG.out]; simp only [if_true]; exact if_neg (by have := HRG.out.1; omega))
    have h64' : ((ys.length : Int) == 64) = false := by simp; omega
    clear h64
    go_wp2_with (first
      | (go_at_call 34; refine HW1.out.mono ?_; rintro e w4 ⟨v4, rfl, hL4, hb4⟩; have r4 := r3.below hb4)
      | (refine wl_store rfl _ _ _ rfl (w.heap.size + 1) [.int .i64 0, .slice none 0 0] rfl rfl _ _ r4 rfl (by kernel_rfl) (one_res rfl) ?_; intro w9 hr9 hg9))
    refine bodyPost_ret (results_tc rfl _ _ (w.heap.size + 1) _ _ (0, 0) _ (by rfl) hr9.out Try.underlying30 rfl (by kernel_rfl)) rfl ?_
    exact FL.out _ _ _ HDD.out hL4 s3 (below_and B3 le hb4) hg9
  | some uu =>
    rw [if_neg (by simp)]
    have HG := (show Hid (getR on ys = some uu) from hg)
    have hP := get_some hg
    clear hg
    obtain ⟨p, hp⟩ : ∃ p, p = pos on ys := ⟨_, rfl⟩
    have HDEL := (show Hid (delR on ys = ys.take p ++ ys.drop (p + 1)) by show _ = _; rw [hp]; exact del_old HG.out)
    rw [← hp] at hP ⊢
    clear hp
    have hpN : p < ys.length := (List.getElem?_eq_some_iff.1 hP).1
    obtain ⟨rows, ⟨hr2, hcase⟩, hA⟩ := HV.out
    have hlen := hA.len
    rcases hcase with ⟨ao', cap', _, e2, _⟩ | ⟨b, off, cap', hve, hcc, hmm, hpos, _, hbb, hcells⟩
    · rw [e2] at hlen; simp at hlen; omega
    injection hve with e1 e2 e3
    subst e1 e3
    clear e2
    rw [hlen] at hcc
    have hrp := List.getElem?_eq_getElem (l := rows) (i := p) (by omega)
    have hrng := hcells p _ hrp
    obtain ⟨s1, s2, hrr, t1, t2⟩ := hA.get hrp hP
    rw [hrr] at hrng
    simp only at t1 t2
    obtain ⟨a2, c2, rfl, hc2⟩ := t2.form
    have m1 : w3.cell? ⟨b, off + p * 2 + 1, none⟩ = some (.slice a2 uu.length c2) := (B3.cell (p := ⟨b, off + p * 2 + 1, none⟩) hbb).trans (hrng 1 _ rfl)
    have HSR := (show Hid ((∀ r ∈ rows, r.length = 2) ∧ (∀ (i : Nat) (r : List Value), rows[i]? = some r → w.rangeAt b (off + i * 2) r) ∧ All2 (REnt Any w) rows ys ∧ rows.length = ys.length) from ⟨hr2, hcells, hA, hlen⟩)
    have hp0 : decide ((p : Int) < 0) = false := by simp
    have HT2 := (show Hid (RT Any w (.slice a2 uu.length c2) uu) from t2)
    have h64 := HRG.out.1
    clear hrng t1 t2 hP hr2 hcells hA hlen hpos hrr hrp
    have q0 := r3.cell (j := 0) rfl
    have q1 := r3.cell (j := 1) rfl
    have z0 := r3.frozen 0
    have z1 := r3.frozen 1
    by_cases k1 : k = 1
    · subst k1
      have HDD := (show Hid (doL ys (1, on, oa, ob, u) = (ys, 0, uu)) by show _ = _; rw [HD.out]; unfold doR; simp only; rw [HG.out]; rfl)
      go_wp2_with fail
      go_region
      have hr9 := (r3.set 0 (.int .i64 0)).set 1 (.slice a2 uu.length c2)
      have hg9 := grown_to_drew (grown_trans (grown_set w3 (w.heap.size + 1) 0 (.int .i64 0)) (grown_set _ (w.heap.size + 1) 1 (.slice a2 uu.length c2)) (.inl rfl))
      go_wp2_with fail
      refine bodyPost_ret (results_tc rfl _ _ (w.heap.size + 1) _ _ (0, 0) _ (by rfl) hr9 Try.underlying30 rfl (by kernel_rfl)) rfl ?_
      exact FB.out 0 _ uu HDD.out HT2.out B3 hg9
    have k1' : (k == 1) = false := by simp [k1]
    by_cases k2 : k = 2
    · subst k2
      have HDD := (show Hid (doL ys (2, on, oa, ob, u) = (putR on oa ys, 0, [])) by show _ = _; rw [HD.out]; unfold doR; simp only; rw [HG.out]; rfl)
      clear q0 q1 z0 z1 m1 k1 k1'
      go_wp2_with (first
        | (go_at_call 34; refine HW1.out.mono ?_; rintro e w4 ⟨v4, rfl, hL4, hb4⟩; have r4 := r3.below hb4)
        | (refine wl_store rfl _ _ _ rfl (w.heap.size + 1) [.int .i64 0, .slice none 0 0] rfl rfl _ _ r4 rfl (by kernel_rfl) (one_res rfl) ?_; intro w9 hr9 hg9))
      refine bodyPost_ret (results_tc rfl _ _ (w.heap.size + 1) _ _ (0, 0) _ (by rfl) hr9.out Try.underlying30 rfl (by kernel_rfl)) rfl ?_
      exact FL.out _ _ _ HDD.out hL4 s3 (below_and B3 le hb4) hg9
    have k2' : (k == 2) = false := by simp [k2]
    by_cases k3 : k = 3
    · subst k3
      clear k1 k2 k1' k2'
      have HS := (show Hid (∀ z, Below w.heap.size w z → Calls Try.prog 35 #[.slice a2 uu.length c2, .slice aa oa.length ca] z fun e w' => e = .returned (.bool (decide (uu = oa))) ∧ w' = z) from fun z hz => same_any z _ _ _ _ (HT2.out.mv (Mv.below hz)).1 (HT.out.2.1.mv (Mv.below hz)).1)
      go_wp2_with fail
      by_cases hq : uu = oa
      · rw [decide_eq_true hq] at HS
        have HDD := (show Hid (doL ys (3, on, oa, ob, u) = (putR on ob ys, 0, [])) by show _ = _; rw [HD.out]; unfold doR; simp only; rw [HG.out]; exact if_pos hq)
        clear hq
        go_big_quiet ((go_at_call 35; exact quiet_as (HS.out _ (bel_dnE B3 _)) rfl))
        have B4 := bel_dnE B3 nq
        have r4 : Row (w3.drewN nq) (w.heap.size + 1) 30 [.int .i64 0, .slice none 0 0] := r3
        have f1 : (w3.drewN nq).cell? ⟨w.heap.size, 1, none⟩ = some (.slice an on.length cn) := d1
        have f3 : (w3.drewN nq).cell? ⟨w.heap.size, 3, none⟩ = some (.slice ab ob.length cb) := d3
        have s4 : w.heap.size + 2 ≤ (w3.drewN nq).heap.size := s3
        obtain ⟨w4, hw4⟩ : ∃ w4, w4 = w3.drewN nq := ⟨_, rfl⟩
        rw [← hw4] at B4 r4 f1 f3 s4 ⊢
        have HW2 := refWith_any w w4 B4 _ ys HV.out HRG.out.1 _ _ on ob HT.out.1 HT.out.2.2
        rw [wi_put HRG.out.2.1] at HW2
        clear q0 q1 z0 z1 m1 d1 d2 d3 hw4 HS
        go_wp2_with (first
          | (go_at_call 34; refine HW2.mono ?_; rintro e w5 ⟨v5, rfl, hL5, hb5⟩; have r5 := r4.below hb5)
          | (refine wl_store rfl _ _ _ rfl (w.heap.size + 1) [.int .i64 0, .slice none 0 0] rfl rfl _ _ r5 rfl (by kernel_rfl) (one_res rfl) ?_; intro w9 hr9 hg9))
        refine bodyPost_ret (results_tc rfl _ _ (w.heap.size + 1) _ _ (0, 0) _ (by rfl) hr9.out Try.underlying30 rfl (by kernel_rfl)) rfl ?_
        exact FL.out _ _ _ HDD.out hL5 s4 (below_and B4 le hb5) hg9
      · rw [decide_eq_false hq] at HS
        have HDD := (show Hid (doL ys (3, on, oa, ob, u) = (ys, 2, uu)) by show _ = _; rw [HD.out]; unfold doR; simp only; rw [HG.out]; exact if_neg hq)
        clear hq
        go_big_quiet ((go_at_call 35; exact quiet_as (HS.out _ (bel_dnE B3 _)) rfl))
        have B4 := bel_dnE B3 nq
        have r4 : Row (w3.drewN nq) (w.heap.size + 1) 30 [.int .i64 0, .slice none 0 0] := r3
        have m4 : (w3.drewN nq).cell? ⟨b, off + p * 2 + 1, none⟩ = some (.slice a2 uu.length c2) := m1
        obtain ⟨w4, hw4⟩ : ∃ w4, w4 = w3.drewN nq := ⟨_, rfl⟩
        rw [← hw4] at B4 r4 m4 ⊢
        clear q0 q1 z0 z1 m1 d1 d2 d3 hw4 HS
        have q0 := r4.cell (j := 0) rfl
        have q1 := r4.cell (j := 1) rfl
        have z0 := r4.frozen 0
        have z1 := r4.frozen 1
        go_wp2_with fail
        go_region
        have hr9 := (r4.set 0 (.int .i64 2)).set 1 (.slice a2 uu.length c2)
        have hg9 := grown_to_drew (grown_trans (grown_set w4 (w.heap.size + 1) 0 (.int .i64 2)) (grown_set _ (w.heap.size + 1) 1 (.slice a2 uu.length c2)) (.inl rfl))
        go_wp2_with fail
        refine bodyPost_ret (results_tc rfl _ _ (w.heap.size + 1) _ _ (0, 0) _ (by rfl) hr9 Try.underlying30 rfl (by kernel_rfl)) rfl ?_
        exact FB.out 2 _ uu HDD.out HT2.out B4 hg9
    have k3' : (k == 3) = false := by simp [k3]
    have HDD := (show Hid (doL ys (k, on, oa, ob, u) = (ys.take p ++ ys.drop (p + 1), 0, [])) by show _ = _; rw [HD.out]; unfold doR; simp only; rw [HG.out]; simp only; rw [if_neg k1, if_neg k2, if_neg k3, HDEL.out])
    clear q0 q1 z0 z1 m1 d1 d2 d3 k1 k2 k3
    have hF0 : LB (RS w) 37 2 w3.heap.size (w3.alloc (.cells #[] 37)) (.slice (some ⟨w3.heap.size, 0, none⟩) 0 0) [] := LB.fresh _ _ _ _ _ (Nat.le_refl _)
    have B4 : Below w.heap.size w (w3.alloc (.cells #[] 37)) := below_and B3 le (below_alloc _ _)
    have hs4 : w3.heap.size ≤ (w3.alloc (.cells #[] 37)).heap.size := (below_alloc w3 (.cells #[] 37)).size
    have r4 : Row (w3.alloc (.cells #[] 37)) (w.heap.size + 1) 30 [.int .i64 0, .slice none 0 0] := r3.below (below_alloc _ _)
    have HTK := (show Hid ((rows.take p).length = p ∧ (∀ r ∈ rows.take p, r.length = 2) ∧ (∀ z, Below w.heap.size w z → ∀ (i : Nat) (r : List Value), (rows.take p)[i]? = some r → z.rangeAt b (off + i * 2) r) ∧ All2 (RS w Any w) (rows.take p) (ys.take p)) from by
      obtain ⟨g1, g2, g3, g4⟩ := HSR.out
      refine ⟨by rw [List.length_take]; omega, fun r hr => g1 r (List.mem_of_mem_take hr), fun z hz i r hi => ?_, (g3.take p).mono fun r y h => RS.of h _ _⟩
      rw [List.getElem?_take] at hi
      split at hi
      · exact rangeAt_block (g2 i r hi) (hz.block b hbb)
      · cases hi)
    have HDR := (show Hid ((rows.drop (p + 1)).length = ys.length - (p + 1) ∧ (∀ r ∈ rows.drop (p + 1), r.length = 2) ∧ (∀ z, Below w.heap.size w z → ∀ (i : Nat) (r : List Value), (rows.drop (p + 1))[i]? = some r → z.rangeAt b (off + (p + 1) * 2 + i * 2) r) ∧ All2 (RS w Any w) (rows.drop (p + 1)) (ys.drop (p + 1))) from by
      obtain ⟨g1, g2, g3, g4⟩ := HSR.out
      refine ⟨by rw [List.length_drop]; omega, fun r hr => g1 r (List.mem_of_mem_drop hr), fun z hz i r hi => ?_, (g3.drop (p + 1)).mono fun r y h => RS.of h _ _⟩
      rw [List.getElem?_drop] at hi
      have := rangeAt_block (g2 _ r hi) (hz.block b hbb)
      rw [Nat.add_mul, ← Nat.add_assoc] at this
      exact this)
    go_upto_region 18 with (at_builtin; refine wl_addN (w0 := w) (B := w3.heap.size) rfl _ _ rfl (.slice (some ⟨w3.heap.size, 0, none⟩) 0 0) [] rfl hF0 hs4 b off p cap (rows.take p) (ys.take p) rfl HTK.out.1 HTK.out.2.1 (HTK.out.2.2.1 _ B4) HTK.out.2.2.2 (by simp only [List.length_nil]; omega) ?_; intro v5 w5 hL5 hg5)
    have hg5 : (w3.alloc (.cells #[] 37)).grownBy w5 (some w3.heap.size) := hg5
    have B5 : Below w.heap.size w w5 := B4.trans (grown_below hg5 B4.size (fun j hj => by cases hj; omega))
    have r5 := r4.grown hg5 (fun e => by injection e with e; omega)
    have s5 : w3.heap.size ≤ w5.heap.size := Nat.le_trans hs4 hg5.size
    rw [List.nil_append] at hL5
    have htl : (ys.take p).length = p := by rw [List.length_take]; omega
    have HTL := (show Hid ((ys.take p).length = p) from htl)
    clear htl hF0 B4 r4 hg5 hs4
    by_cases hci : cap = p + 1
    · have hdn : ys.drop (p + 1) = [] := List.drop_of_length_le (by omega)
      rw [hdn] at HDD
      have hNp : ys.length - (p + 1) = 0 := by omega
      have HNP := (show Hid (ys.length - (p + 1) = 0) from hNp)
      clear hdn hNp
      subst hci
      go_wp2_with (first
        | (at_builtin; refine wl_addN (w0 := w) (B := w3.heap.size) rfl _ _ rfl v5 (ys.take p) rfl hL5 s5 b off (ys.length - (p + 1)) 0 [] [] (by simp [Act.eval, Act.put]; omega) HNP.out.symm (fun r hr => by cases hr) (fun i r hr => by simp at hr) trivial (by rw [HTL.out]; omega) ?_; intro v6 w6 hL6 hg6; have B6 : Below w.heap.size w w6 := B5.trans (grown_below hg6 B5.size (fun j hj => Nat.le_trans B3.size (hL5.fr j hj))); have r6 := r5.grown hg6 (fun e => by have := hL5.fr _ e; omega))
        | (refine wl_store rfl _ _ _ rfl (w.heap.size + 1) [.int .i64 0, .slice none 0 0] rfl rfl _ _ r6 rfl (by kernel_rfl) (one_res rfl) ?_; intro w9 hr9 hg9))
      refine bodyPost_ret (results_tc rfl _ _ (w.heap.size + 1) _ _ (0, 0) _ (by rfl) hr9.out Try.underlying30 rfl (by kernel_rfl)) rfl ?_
      exact FL.out _ _ _ HDD.out hL6 s3 B6 hg9
    · go_wp2_with (first
        | (at_builtin; refine wl_addN (w0 := w) (B := w3.heap.size) rfl _ _ rfl v5 (ys.take p) rfl hL5 s5 b (off + (p + 1) * 2) (ys.length - (p + 1)) (cap - (p + 1)) (rows.drop (p + 1)) (ys.drop (p + 1)) (by simp [Act.eval, Act.put, hci]) HDR.out.1 HDR.out.2.1 (HDR.out.2.2.1 _ B5) HDR.out.2.2.2 (by rw [HTL.out]; omega) ?_; intro v6 w6 hL6 hg6; have B6 : Below w.heap.size w w6 := B5.trans (grown_below hg6 B5.size (fun j hj => Nat.le_trans B3.size (hL5.fr j hj))); have r6 := r5.grown hg6 (fun e => by have := hL5.fr _ e; omega))
        | (refine wl_store rfl _ _ _ rfl (w.heap.size + 1) [.int .i64 0, .slice none 0 0] rfl rfl _ _ r6 rfl (by kernel_rfl) (one_res rfl) ?_; intro w9 hr9 hg9))
      refine bodyPost_ret (results_tc rfl _ _ (w.heap.size + 1) _ _ (0, 0) _ (by rfl) hr9.out Try.underlying30 rfl (by kernel_rfl)) rfl ?_
      exact FL.out _ _ _ HDD.out hL6 s3 B6 hg9
end Go.Proofs.Ytbnioibeckifbaa
end

section
set_option linter.unusedVariables false
set_option linter.unusedSimpArgs false
namespace Go.Proofs.Ytbnioibeckifbaa
open Go.RowKit Oct Kvl

section
variable {P : Program}
theorem step_load {ops : Array Oper} {o : Oper} {a : Act} {w : World} {K : Act → World → Prop} {Q : Exit → Act → World → Prop} {E : Prop} (hgd : o.guard = none) (ty : TypeId) (x : Operand) (ho : o.op = .load ty x)
    (b : Nat) (hx : a.eval x = .pointer (some ⟨b, 0, none⟩)) (t : TypeId) (xs : List Value) (h : Row w b t xs) (d : TypeDesc) (hu : P.underlying ty = some d) (hd : (match d with | .struct _ | .array _ _ => true | _ => false) = true)
    (hi : (P.info? ty).map (·.size) = some xs.length) (k : K (a.put o.dst (.agg xs.toArray)) w) : if Region.wanted o (yielded ops a.tmps) = true then Oper.wp P o a w K Q else E := by
  rw [if_pos (wanted_none hgd)]
  exact wp_load_row ty x ho b hx t xs.toArray (0, 0) d h hu hd (by simpa using hi) k
theorem step_store {ops : Array Oper} {o : Oper} {a : Act} {w : World} {K : Act → World → Prop} {Q : Exit → Act → World → Prop} {E : Prop} (hgd : o.guard = none) (ty : TypeId) (x y : Operand) (ho : o.op = .store ty x y)
    (b : Nat) (ys : List Value) (hx : a.eval x = .pointer (some ⟨b, 0, none⟩)) (hy : a.eval y = .agg ys.toArray) (t : TypeId) (xs : List Value) (h : Row w b t xs) (hl : xs.length = ys.length)
    (hi : (P.info? ty).map (·.size) = some ys.length) (h1 : ∀ v ∈ ys, v.oneCell' = true) (k : ∀ w', Hid (Row w' b t ys) → w.grownBy w' (some b) → K (a.put o.dst undef) w') : if Region.wanted o (yielded ops a.tmps) = true then Oper.wp P o a w K Q else E := by
  rw [if_pos (wanted_none hgd)]
  exact wp_store_row ty x y ho b ys.toArray hx hy t xs.toArray h (by simpa using hi) (by simpa using hl) (all_oneCell_toArray h1) (k _ (h.setRow ys) (grown_setRow _ _ _))
end
/-- A byte is set somewhere: a text of the call's own is still one, of the same length. -/
theorem OT.byte {G : Nat → Prop} {w : World} {v : Value} {l : List Int} (h : OT G w v l) (g j : Nat) (x : Int) (hx : 0 ≤ x ∧ x ≤ 255) : ∃ l', l'.length = l.length ∧ OT G (w.setCell ⟨g, j, none⟩ (.int .u8 x)) v l' := by
  by_cases hg : v.ownBlock = some g
  · obtain ⟨hown, hb, hG⟩ := h
    refine ⟨l.set j x, by simp, ?_, fun z hz => ?_, hG⟩
    · obtain ⟨h1, h2⟩ := hown
      rcases h2 with ⟨rfl, _⟩ | ⟨g', cap, cur, rfl, h0, hh, n1, n2, n3, n4⟩
      · simp [Value.ownBlock] at hg
      · simp [Value.ownBlock] at hg
        subst hg
        have q : Row w g' 5 cur.toList := by unfold Row; simpa using hh
        have q' := q.set j (.int .u8 x)
        have hbc : bc (l.set j x) = (bc l).set j (.int .u8 x) := by unfold bc; rw [List.map_set]
        have hn : (bc (l.set j x)).length = (bc l).length := by rw [hbc, List.length_set]
        show World.ownsRow _ 0 _ 1 _ (bc (l.set j x)).length _
        rw [hn, hbc]
        refine ⟨by simp, .inr ⟨g', cap, (cur.toList.set j (.int .u8 x)).toArray, rfl, h0, q', n1, n2, by simpa using n3, ?_⟩⟩
        rw [List.toList_toArray, List.take_set, n4]
    · rcases List.mem_or_eq_of_mem_set hz with hz | rfl
      · exact hb z hz
      · exact hx
  · refine ⟨l, rfl, h.1.grown (grown_set w g j (.int .u8 x)) (fun k hk => ?_), h.2.1, h.2.2⟩
    cases hk
    exact hg
end Go.Proofs.Ytbnioibeckifbaa
end

section
set_option linter.unusedVariables false
set_option linter.unusedSimpArgs false
namespace Go.Proofs.Ytbnioibeckifbaa
open Go.RowKit Oct Kvl

theorem xor_rng {y : Int} (h : 0 ≤ y ∧ y ≤ 255) : 0 ≤ bits .xor .u8 y 255 ∧ bits .xor .u8 y 255 ≤ 255 := by
  rw [u8_xor y 255 h.1 (by omega) (by decide) (by decide)]
  have : y.toNat ^^^ (255 : Int).toNat < 2 ^ 8 := Nat.xor_lt_two_pow (by omega) (by decide)
  omega
theorem OT.byteR {G : Nat → Prop} {w w' : World} {v : Value} {l : List Int} (h : OT G w v l) {k j : Nat} {cur : List Value} {x : Int} (hk : Row w k 5 cur) (hk' : Row w' k 5 (cur.set j (.int .u8 x))) (hg' : w.grownBy w' (some k)) (hx : 0 ≤ x ∧ x ≤ 255) : ∃ l', l'.length = l.length ∧ OT G w' v l' := by
  by_cases hg : v.ownBlock = some k
  · obtain ⟨hown, hb, hG⟩ := h
    refine ⟨l.set j x, by simp, ?_, fun z hz => ?_, hG⟩
    · obtain ⟨h1, h2⟩ := hown
      rcases h2 with ⟨rfl, _⟩ | ⟨g', cap, cur', rfl, h0, hh, n1, n2, n3, n4⟩
      · simp [Value.ownBlock] at hg
      · simp [Value.ownBlock] at hg
        subst hg
        have q : Row w g' 5 cur'.toList := by unfold Row; simpa using hh
        obtain rfl := q.uniq hk
        have hbc : bc (l.set j x) = (bc l).set j (.int .u8 x) := by unfold bc; rw [List.map_set]
        have hn : (bc (l.set j x)).length = (bc l).length := by rw [hbc, List.length_set]
        show World.ownsRow _ 0 _ 1 _ (bc (l.set j x)).length _
        rw [hn, hbc]
        refine ⟨by simp, .inr ⟨g', cap, (cur'.toList.set j (.int .u8 x)).toArray, rfl, h0, hk', n1, n2, by simpa using n3, ?_⟩⟩
        rw [List.toList_toArray, List.take_set, n4]
    · rcases List.mem_or_eq_of_mem_set hz with hz | rfl
      · exact hb z hz
      · exact hx
  · refine ⟨l, rfl, h.1.grown hg' (fun j hj => ?_), h.2.1, h.2.2⟩
    cases hj
    exact hg
/-- Rows that stay as they are, and texts of the call's own of which only the length stays. -/
structure Zap (B : Nat) (w0 w : World) (rs : List (Nat × TypeId × List Value)) (ts : List (Value × Nat)) : Prop where
  bel : Below B w0 w
  low : B ≤ w0.heap.size
  row : ∀ r ∈ rs, r.2.1 ≠ 5 ∧ Row w r.1 r.2.1 r.2.2
  txt : ∀ p ∈ ts, ∃ l : List Int, l.length = p.2 ∧ OT (From B) w p.1 l
/-- A text of them, at a place. -/
theorem Zap.at {B : Nat} {w0 w : World} {rs : List (Nat × TypeId × List Value)} {ts : List (Value × Nat)} (h : Zap B w0 w rs ts) {v : Value} {n : Nat} (hv : (v, n) ∈ ts) {j : Nat} (hj : j < n) :
    ∃ (k cap : Nat) (cur : List Value) (y : Int), v = .slice (some ⟨k, 0, none⟩) n cap ∧ n ≤ cap ∧ cap ≤ maxLen ∧ B ≤ k ∧ Row w k 5 cur ∧ j < cur.length ∧ cur[j]? = some (.int .u8 y) ∧ 0 ≤ y ∧ y ≤ 255 := by
  obtain ⟨l, hl, hown, hb, hG⟩ := h.txt _ hv
  have hl' : l.length = n := hl
  obtain ⟨h1, h2⟩ := hown
  rcases h2 with ⟨_, h3⟩ | ⟨k, cap, cur, e, _, hh, n1, n2, n3, n4⟩
  · rw [bc_len] at h3; omega
  · have e' : v = .slice (some ⟨k, 0, none⟩) (bc l).length cap := e
    rw [bc_len, hl'] at e'
    have hy : (bc l)[j]? = some (.int .u8 l[j]) := by rw [bc_at, List.getElem?_eq_getElem (by omega)]; rfl
    rw [← n4, List.getElem?_take] at hy
    rw [bc_len] at n1 hy
    split at hy
    · refine ⟨k, cap, cur.toList, l[j], e', by omega, n2, hG k (by rw [e']; rfl), by unfold Row; simpa using hh, (List.getElem?_eq_some_iff.1 hy).1, hy, hb _ (List.getElem_mem _)⟩
    · cases hy
theorem Zap.set {B : Nat} {w0 w w' : World} {rs : List (Nat × TypeId × List Value)} {ts : List (Value × Nat)} (h : Zap B w0 w rs ts) {k j : Nat} {cur : List Value} {x : Int} (hB : B ≤ k) (hk : Row w k 5 cur) (hk' : Row w' k 5 (cur.set j (.int .u8 x))) (hg' : w.grownBy w' (some k)) (hx : 0 ≤ x ∧ x ≤ 255) : Zap B w0 w' rs ts := by
  refine ⟨h.bel.trans (grown_below hg' (Nat.le_trans h.low h.bel.size) (fun q hq => by cases hq; exact hB)), h.low, fun r hr => ⟨(h.row r hr).1, (h.row r hr).2.grown hg' (fun e => ?_)⟩, fun p hp => ?_⟩
  · injection e with e
    exact (h.row r hr).2.apart hk (h.row r hr).1 e.symm
  · obtain ⟨l, hl, ho⟩ := h.txt p hp
    obtain ⟨l', hl', ho'⟩ := ho.byteR hk hk' hg' hx
    exact ⟨l', hl'.trans hl, ho'⟩
/-- A list that was built, and what else stays. -/
theorem Zap.of {B : Nat} {w0 w : World} {v : Value} {ys : List PEnt} (h : LB OEnt 37 2 B w v ys) (hb : Below B w0 w) (hl : B ≤ w0.heap.size) {b : Nat} {t : TypeId} {xs : List Value} (ht : t ≠ 5) (hr : Row w b t xs) {xv : Value} {xl : List Int} (hx : OT (From B) w xv xl) :
    ∃ ao cap rs ts, v = .slice ao ys.length cap ∧ ys.length ≤ cap ∧ cap ≤ maxLen ∧ Zap B w0 w ((b, t, xs) :: rs) ((xv, xl.length) :: ts) ∧
      ∀ i, i < ys.length → ∃ g cur a mm, ao = some ⟨g, 0, none⟩ ∧ (g, 37, cur) ∈ rs ∧ cur[i * 2 + 1]? = some a ∧ (a, mm) ∈ ts := by
  have base : Zap B w0 w [(b, t, xs)] [(xv, xl.length)] := ⟨hb, hl, fun r hr' => by simp at hr'; subst hr'; exact ⟨ht, hr⟩, fun p hp => by simp at hp; subst hp; exact ⟨xl, rfl, hx⟩⟩
  rcases Nat.eq_zero_or_pos ys.length with h0 | hp
  · obtain ⟨ao, cap, e, hc⟩ := (Rp.rl h).form
    obtain ⟨rows, hown⟩ := h.len
    refine ⟨ao, cap, [], [], e, by omega, ?_, base, fun i hi => by omega⟩
    rcases hown.2 with ⟨e2, _⟩ | ⟨g, cap', cur, e2, _, _, _, h5, _⟩
    · rw [e2] at e; simp at e; omega
    · rw [e2] at e; simp at e; omega
  · obtain ⟨g, cap, cur, rows, e, hrow, h2, h3, h4, h5, h6, h7, h8, h9⟩ := h.opn hp
    refine ⟨some ⟨g, 0, none⟩, cap, [(g, 37, cur)], (rows.zip ys).map fun p => (p.1.getD 1 (.bool true), p.2.2.length), e, h3, h4, ⟨hb, hl, fun r hr' => ?_, fun p hp => ?_⟩, fun i hi => ?_⟩
    · simp only [List.mem_cons, List.not_mem_nil, or_false] at hr'
      rcases hr' with rfl | rfl
      · exact ⟨ht, hr⟩
      · exact ⟨by show (37 : Nat) ≠ 5; decide, hrow⟩
    · rcases List.mem_cons.1 hp with rfl | hp
      · exact ⟨xl, rfl, hx⟩
      · obtain ⟨⟨r, y⟩, hm, rfl⟩ := List.mem_map.1 hp
        obtain ⟨i, hi, he⟩ := List.getElem_of_mem hm
        rw [List.getElem_zip] at he
        injection he with e1 e2
        rw [List.length_zip] at hi
        obtain ⟨a, c, er, o1, o2⟩ := h9.get (List.getElem?_eq_getElem (by omega : i < rows.length)) (List.getElem?_eq_getElem (by omega : i < ys.length))
        rw [e1] at er
        rw [e2] at o2
        refine ⟨y.2, rfl, ?_⟩
        show OT (From B) w (r.getD 1 (.bool true)) y.2
        rw [er]
        exact o2.mv fun k hk _ => ⟨rfl, hk.1⟩
    · obtain ⟨a, c, er, o1, o2⟩ := h9.get (List.getElem?_eq_getElem (by omega : i < rows.length)) (List.getElem?_eq_getElem (by omega : i < ys.length))
      refine ⟨g, cur, c, ys[i].2.length, rfl, by simp, ?_, ?_⟩
      · have := flat_at (j := 1) h7 (List.getElem?_eq_getElem (by omega : i < rows.length)) (by rw [er]; rfl)
        rw [← h8, List.getElem?_take, if_pos (by omega)] at this
        exact this
      · refine List.mem_map.2 ⟨(rows[i], ys[i]), ?_, by rw [er]; rfl⟩
        rw [← List.getElem_zip (h := by rw [List.length_zip]; omega)]
        exact List.getElem_mem _
end Go.Proofs.Ytbnioibeckifbaa
end

section
set_option linter.unusedVariables false
set_option linter.unusedSimpArgs false
namespace Go.Proofs.Ytbnioibeckifbaa
open Go.RowKit Oct Kvl

/-- Leases that were built: what stays where the bytes of their names are turned. -/
theorem Zap.ofS {B : Nat} {w0 w : World} {v : Value} {ys : List PEnt} (h : LB OLea 50 3 B w v ys) (hb : Below B w0 w) (hl : B ≤ w0.heap.size) :
    ∃ ao cap rs ts, v = .slice ao ys.length cap ∧ ys.length ≤ cap ∧ cap ≤ maxLen ∧ Zap B w0 w rs ts ∧
      ∀ i, i < ys.length → ∃ g cur a mm, ao = some ⟨g, 0, none⟩ ∧ (g, 50, cur) ∈ rs ∧ cur[i * 3]? = some a ∧ (a, mm) ∈ ts := by
  rcases Nat.eq_zero_or_pos ys.length with h0 | hp
  · obtain ⟨ao, cap, e, hc⟩ := (Rs.rl h).form
    obtain ⟨rows, hown⟩ := h.len
    refine ⟨ao, cap, [], [], e, by omega, ?_, ⟨hb, hl, (fun r hr => by cases hr), (fun p hp => by cases hp)⟩, fun i hi => by omega⟩
    rcases hown.2 with ⟨e2, _⟩ | ⟨g, cap', cur, e2, _, _, _, h5, _⟩
    · rw [e2] at e; simp at e; omega
    · rw [e2] at e; simp at e; omega
  · obtain ⟨g, cap, cur, rows, e, hrow, h2, h3, h4, h5, h6, h7, h8, h9⟩ := h.opnS hp
    refine ⟨some ⟨g, 0, none⟩, cap, [(g, 50, cur)], (rows.zip ys).map fun p => (p.1.getD 0 (.bool true), p.2.1.length), e, h3, h4, ⟨hb, hl, fun r hr' => ?_, fun p hp => ?_⟩, fun i hi => ?_⟩
    · simp only [List.mem_cons, List.not_mem_nil, or_false] at hr'
      subst hr'
      exact ⟨by show (50 : Nat) ≠ 5; decide, hrow⟩
    · obtain ⟨⟨r, y⟩, hm, rfl⟩ := List.mem_map.1 hp
      obtain ⟨i, hi, he⟩ := List.getElem_of_mem hm
      rw [List.getElem_zip] at he
      injection he with e1 e2
      rw [List.length_zip] at hi
      obtain ⟨a, p1, q1, er, o1, o2⟩ := h9.get (List.getElem?_eq_getElem (by omega : i < rows.length)) (List.getElem?_eq_getElem (by omega : i < ys.length))
      rw [e1] at er
      rw [e2] at o1
      refine ⟨y.1, rfl, ?_⟩
      show OT (From B) w (r.getD 0 (.bool true)) y.1
      rw [er]
      exact o1.mv fun k hk _ => ⟨rfl, hk.1⟩
    · obtain ⟨a, p1, q1, er, o1, o2⟩ := h9.get (List.getElem?_eq_getElem (by omega : i < rows.length)) (List.getElem?_eq_getElem (by omega : i < ys.length))
      refine ⟨g, cur, a, ys[i].1.length, rfl, by simp, ?_, ?_⟩
      · have := flat_at (j := 0) h7 (List.getElem?_eq_getElem (by omega : i < rows.length)) (by rw [er]; rfl)
        rw [← h8, List.getElem?_take, if_pos (by omega)] at this
        exact this
      · refine List.mem_map.2 ⟨(rows[i], ys[i]), ?_, by rw [er]; rfl⟩
        rw [← List.getElem_zip (h := by rw [List.length_zip]; omega)]
        exact List.getElem_mem _

theorem bel_set5S {B b : Nat} {w u : World} {x0 x1 x2 x3 x4 : Value} (h : Below B w u) (hw : B ≤ w.heap.size) (hb : B ≤ b) : Below B w (((((u.setCell ⟨b, 0, none⟩ x0).setCell ⟨b, 1, none⟩ x1).setCell ⟨b, 2, none⟩ x2).setCell ⟨b, 3, none⟩ x3).setCell ⟨b, 4, none⟩ x4) :=
  h.trans (grown_below (grown_trans (grown_trans (grown_trans (grown_trans (grown_set u b 0 x0) (grown_set _ b 1 x1) (.inl rfl)) (grown_set _ b 2 x2) (.inl rfl)) (grown_set _ b 3 x3) (.inl rfl)) (grown_set _ b 4 x4) (.inl rfl)) (Nat.le_trans hw h.size) (fun k hk => by cases hk; exact hb))

theorem aft5S {w4 : World} {b : Nat} {z0 z1 z2 z3 z4 x0 x1 x2 x3 x4 : Value} (q : Row w4 b 25 [z0, z1, z2, z3, z4]) :
    Row (((((w4.setCell ⟨b, 0, none⟩ x0).setCell ⟨b, 1, none⟩ x1).setCell ⟨b, 2, none⟩ x2).setCell ⟨b, 3, none⟩ x3).setCell ⟨b, 4, none⟩ x4) b 25 [x0, x1, x2, x3, x4] ∧
      w4.grownBy (((((w4.setCell ⟨b, 0, none⟩ x0).setCell ⟨b, 1, none⟩ x1).setCell ⟨b, 2, none⟩ x2).setCell ⟨b, 3, none⟩ x3).setCell ⟨b, 4, none⟩ x4) (some b) :=
  ⟨((((q.set 0 x0).set 1 x1).set 2 x2).set 3 x3).set 4 x4, grown_trans (grown_trans (grown_trans (grown_trans (grown_set w4 b 0 x0) (grown_set _ b 1 x1) (.inl rfl)) (grown_set _ b 2 x2) (.inl rfl)) (grown_set _ b 3 x3) (.inl rfl)) (grown_set _ b 4 x4) (.inl rfl)⟩

set_option maxRecDepth 10000 in
set_option maxHeartbeats 8000000 in
theorem doesS_any (w : World) (v : Value) (ys : List PEnt) (r : List Value) (o : POp) (who now : Int) (h0 : RL RLea 3 Any w v ys) (h1 : ROp Any w r o) (z0 : szL 40 szS ys) (z1 : szO o) :
    Calls Try.prog 5 #[v, .agg r.toArray, .agg #[.int .i64 who, .int .i64 now]] w fun e w' => e = .returned (.bool true) ∧ Below w.heap.size w w' := by
  have le := Nat.le_refl w.heap.size
  have hall := h1
  obtain ⟨vn, va, vb, rfl, rn, ra', rb'⟩ := h1
  obtain ⟨w0, hw0⟩ : ∃ w0, w0 = (w.alloc (.cells #[.int .i64 o.1, vn, va, vb, .int .i64 o.2.2.2.2] 25)).alloc (.cells #[.int .i64 who, .int .i64 now] 43) := ⟨_, rfl⟩
  have x0 : Row w0 w.heap.size 25 [.int .i64 o.1, vn, va, vb, .int .i64 o.2.2.2.2] := by rw [hw0]; exact rowA (Row.new w 25 _) _
  have v0 : Row w0 (w.heap.size + 1) 43 [.int .i64 who, .int .i64 now] := by
    rw [hw0]
    have := Row.new (w.alloc (.cells #[.int .i64 o.1, vn, va, vb, .int .i64 o.2.2.2.2] 25)) 43 [.int .i64 who, .int .i64 now]
    simpa using this
  have B0 : Below w.heap.size w w0 := by rw [hw0]; exact below_and (below_alloc _ _) (Nat.le_refl _) (below_alloc _ _)
  go_enter Try.func5, Try.ntmps5
  go_upto_region 1 with fail
  rw [← hw0]
  clear hw0
  go_upto_region 3 with (go_at_call 19; refine (leaseAlive_any w0).mono ?_; rintro e w1 ⟨rfl, hb1⟩)
  have B1 := below_and B0 le hb1
  have x1 := x0.below hb1
  have v1 := v0.below hb1
  clear hb1 B0 x0 v0
  have HC := (show Hid (∀ u, Below w1.heap.size w1 u → Calls Try.prog 20 #[v] u fun e w' => ∃ v', e = .returned v' ∧ Hid (∀ z : World, w'.heap.size ≤ z.heap.size → (∀ j, u.heap.size ≤ j → j < w'.heap.size → z.heap[j]? = w'.heap[j]?) → RL RLea 3 Any z v' ys) ∧ Below u.heap.size u w' ∧ Below w1.heap.size w1 w') from fun u hu => (refCopyS_any u v ys (h0.mv mov_lea (below_and B1 le hu).size (Mv.below (below_and B1 le hu))) z0).mono fun e w' ⟨v', e1, e2, e3⟩ => ⟨v', e1, fun z hz hk => (e2.rl mov_lea).mv mov_lea hz (fun j hj hlt => ⟨hk j hj hlt, trivial⟩), e3, below_and hu (Nat.le_refl _) e3⟩)
  have HO := (show Hid (∀ u, Below w1.heap.size w1 u → Calls Try.prog 10 #[.agg #[.int .i64 o.1, vn, va, vb, .int .i64 o.2.2.2.2]] u fun e w' => ∃ an cn aa ca ab cb, e = .returned (.agg #[.int .i64 o.1, .slice an o.2.1.length cn, .slice aa o.2.2.1.length ca, .slice ab o.2.2.2.1.length cb, .int .i64 o.2.2.2.2]) ∧ Hid (∀ z : World, w'.heap.size ≤ z.heap.size → (∀ j, u.heap.size ≤ j → j < w'.heap.size → z.heap[j]? = w'.heap[j]?) → ROp Any z [.int .i64 o.1, .slice an o.2.1.length cn, .slice aa o.2.2.1.length ca, .slice ab o.2.2.2.1.length cb, .int .i64 o.2.2.2.2] o) ∧ Below u.heap.size u w' ∧ Below w1.heap.size w1 w') from fun u hu => (copyOp_any u _ o (mov_op _ _ _ _ _ _ hall (below_and B1 le hu).size (Mv.below (below_and B1 le hu))) z1).mono fun e w' ⟨r', e1, e2, e3⟩ => by
    have e2' := e2
    obtain ⟨un, ua, ub, rfl, sn, sa, sb⟩ := e2
    obtain ⟨an, cn, rfl, _⟩ := sn.form
    obtain ⟨aa, ca, rfl, _⟩ := sa.form
    obtain ⟨ab, cb, rfl, _⟩ := sb.form
    exact ⟨an, cn, aa, ca, ab, cb, e1, fun z hz hk => mov_op _ _ _ _ _ _ e2' hz (fun j hj hlt => ⟨hk j hj hlt, trivial⟩), e3, below_and hu (Nat.le_refl _) e3⟩)
  have SK := (show Hid (∀ u, Below w1.heap.size w1 u → u.cell? ⟨w.heap.size, 0, none⟩ = some (.int .i64 o.1) ∧ u.cell? ⟨w.heap.size, 1, none⟩ = some vn ∧ u.cell? ⟨w.heap.size, 2, none⟩ = some va ∧ u.cell? ⟨w.heap.size, 3, none⟩ = some vb ∧ u.cell? ⟨w.heap.size, 4, none⟩ = some (.int .i64 o.2.2.2.2)) from fun u hu => ⟨(x1.below hu).cell (j := 0) rfl, (x1.below hu).cell (j := 1) rfl, (x1.below hu).cell (j := 2) rfl, (x1.below hu).cell (j := 3) rfl, (x1.below hu).cell (j := 4) rfl⟩)
  obtain ⟨a0, a1, a2, a3, a4⟩ := SK.out w1 (Below.refl _ _)
  have hdw : Below w1.heap.size w1 w1.drew := ⟨rfl, rfl, rfl, Nat.le_refl _, fun _ _ => rfl⟩
  have qn1 : w.heap.size ≠ w1.heap.size := Nat.ne_of_lt x1.lt
  obtain ⟨b0, b1, b2, b3, b4⟩ := SK.out w1.drew hdw
  obtain ⟨d0, d1, d2, d3, d4⟩ := SK.out (w1.alloc (.cells #[.int .i64 0, .slice none 0 0, .slice none 0 0, .slice none 0 0, .int .i64 0] 25)) (below_alloc _ _)
  try go_simp
  go_cut [7, 8] from 19 (fun s5 s6 wx => ∃ (b : Nat) (rr : List Value), s6 = .pointer (some ⟨b, 0, none⟩) ∧ RL RLea 3 Any wx s5 ys ∧ ROp Any wx rr o ∧ Row wx b 25 rr ∧ Row wx w.heap.size 25 [.int .i64 o.1, vn, va, vb, .int .i64 o.2.2.2.2] ∧ Row wx (w.heap.size + 1) 43 [.int .i64 who, .int .i64 now] ∧ Below w.heap.size w wx)
  case first =>
    go_wp2_with fail
    go_region_law (first
        | (go_simp; go_at_call 10; refine (HO.out _ (by first | assumption | exact Below.drew (by assumption) | exact below_and (by assumption) (Nat.le_refl _) (below_alloc _ _) | exact Below.drew (below_and (by assumption) (Nat.le_refl _) (below_alloc _ _)) | exact below_and (Below.drew (by assumption)) (Nat.le_refl _) (below_alloc _ _) | exact hdw)).mono ?_; rintro e w4 ⟨an, cn, aa, ca, ab, cb, rfl, ro, hb4, hB4⟩; (first | (have q := (Row.new _ 25 [.int .i64 0, .slice none 0 0, .slice none 0 0, .slice none 0 0, .int .i64 0]).below hb4; have qc0 := q.cell (j := 0) rfl; have qc1 := q.cell (j := 1) rfl; have qc2 := q.cell (j := 2) rfl; have qc3 := q.cell (j := 3) rfl; have qc4 := q.cell (j := 4) rfl; have qf0 := q.frozen 0; have qf1 := q.frozen 1; have qf2 := q.frozen 2; have qf3 := q.frozen 3; have qf4 := q.frozen 4) | (have q := (Row.new _ 25 [.int .i64 0, .slice none 0 0, .slice none 0 0, .slice none 0 0, .int .i64 0]).drew.below hb4; have qc0 := q.cell (j := 0) rfl; have qc1 := q.cell (j := 1) rfl; have qc2 := q.cell (j := 2) rfl; have qc3 := q.cell (j := 3) rfl; have qc4 := q.cell (j := 4) rfl; have qf0 := q.frozen 0; have qf1 := q.frozen 1; have qf2 := q.frozen 2; have qf3 := q.frozen 3; have qf4 := q.frozen 4) | (have q := q.below hb4; have qc0 := q.cell (j := 0) rfl; have qc1 := q.cell (j := 1) rfl; have qc2 := q.cell (j := 2) rfl; have qc3 := q.cell (j := 3) rfl; have qc4 := q.cell (j := 4) rfl; have qf0 := q.frozen 0; have qf1 := q.frozen 1; have qf2 := q.frozen 2; have qf3 := q.frozen 3; have qf4 := q.frozen 4) | skip))
        | (go_simp; go_at_call 20; refine (HC.out _ (by first | assumption | exact Below.drew (by assumption) | exact below_and (by assumption) (Nat.le_refl _) (below_alloc _ _) | exact Below.drew (below_and (by assumption) (Nat.le_refl _) (below_alloc _ _)) | exact below_and (Below.drew (by assumption)) (Nat.le_refl _) (below_alloc _ _) | exact hdw)).mono ?_; rintro e w3 ⟨v3, rfl, rc, hb3, hB3⟩; obtain ⟨p0, p1, p2, p3, p4⟩ := SK.out w3 hB3; obtain ⟨s0, s1, s2, s3, s4⟩ := SK.out (w3.alloc (.cells #[.int .i64 0, .slice none 0 0, .slice none 0 0, .slice none 0 0, .int .i64 0] 25)) (below_and hB3 (Nat.le_refl _) (below_alloc _ _)); (first | (have q := (Row.new _ 25 [.int .i64 0, .slice none 0 0, .slice none 0 0, .slice none 0 0, .int .i64 0]).below hb3) | (have q := (Row.new _ 25 [.int .i64 0, .slice none 0 0, .slice none 0 0, .slice none 0 0, .int .i64 0]).drew.below hb3) | skip)))
    all_goals (
      have hb34 : Below w3.heap.size w3 w4 := by first | exact hb4 | exact below_and (below_alloc _ _) (Nat.le_refl _) hb4
      first
        | (obtain ⟨w6, hw6⟩ : ∃ w6, w6 = w4.alloc (.cells #[.int .i64 o.1, .slice an o.2.1.length cn, .slice aa o.2.2.1.length ca, .slice ab o.2.2.2.1.length cb, .int .i64 o.2.2.2.2] 25) := ⟨_, rfl⟩; rw [← hw6]; have y6 : Row w6 w4.heap.size 25 [.int .i64 o.1, .slice an o.2.1.length cn, .slice aa o.2.2.1.length ca, .slice ab o.2.2.2.1.length cb, .int .i64 o.2.2.2.2] := (by rw [hw6]; exact Row.new w4 25 [.int .i64 o.1, .slice an o.2.1.length cn, .slice aa o.2.2.1.length ca, .slice ab o.2.2.2.1.length cb, .int .i64 o.2.2.2.2]); have g6 : w4.grownBy w6 (some w4.heap.size) := (by rw [hw6]; exact grown_of_below (below_alloc _ _) _); have hlo : w1.heap.size ≤ w4.heap.size := hB4.size)
        | (obtain ⟨w6, hw6⟩ : ∃ w6, w6 = ((((w4.setCell ⟨w3.heap.size, 0, none⟩ (.int .i64 o.1)).setCell ⟨w3.heap.size, 1, none⟩ (.slice an o.2.1.length cn)).setCell ⟨w3.heap.size, 2, none⟩ (.slice aa o.2.2.1.length ca)).setCell ⟨w3.heap.size, 3, none⟩ (.slice ab o.2.2.2.1.length cb)).setCell ⟨w3.heap.size, 4, none⟩ (.int .i64 o.2.2.2.2) := ⟨_, rfl⟩; have q5 := aft5S (b := w3.heap.size) (x0 := .int .i64 o.1) (x1 := .slice an o.2.1.length cn) (x2 := .slice aa o.2.2.1.length ca) (x3 := .slice ab o.2.2.2.1.length cb) (x4 := .int .i64 o.2.2.2.2) q; rw [← hw6] at q5 ⊢; obtain ⟨y6, g6⟩ := q5; have hlo : w1.heap.size ≤ w3.heap.size := by first | exact Nat.le_refl _ | exact hB3.size)
        | (obtain ⟨w6, hw6⟩ : ∃ w6, w6 = ((((w4.setCell ⟨w1.heap.size, 0, none⟩ (.int .i64 o.1)).setCell ⟨w1.heap.size, 1, none⟩ (.slice an o.2.1.length cn)).setCell ⟨w1.heap.size, 2, none⟩ (.slice aa o.2.2.1.length ca)).setCell ⟨w1.heap.size, 3, none⟩ (.slice ab o.2.2.2.1.length cb)).setCell ⟨w1.heap.size, 4, none⟩ (.int .i64 o.2.2.2.2) := ⟨_, rfl⟩; have q5 := aft5S (b := w1.heap.size) (x0 := .int .i64 o.1) (x1 := .slice an o.2.1.length cn) (x2 := .slice aa o.2.2.1.length ca) (x3 := .slice ab o.2.2.2.1.length cb) (x4 := .int .i64 o.2.2.2.2) q; rw [← hw6] at q5 ⊢; obtain ⟨y6, g6⟩ := q5; have hlo : w1.heap.size ≤ w1.heap.size := by first | exact Nat.le_refl _ | exact hB3.size)
      have z3 := hb34.size
      have z1' := hB3.size
      have z4 := g6.size
      have z5 := hb3.size
      try simp at z5
      have r6 := rc.out w6 (Nat.le_trans z3 z4) (fun j h1 h2 => (g6.block j (Nat.lt_of_lt_of_le h2 z3) (fun e => by injection e with e; (try simp at h1); omega)).trans (hb34.block j h2))
      have o6 := ro.out w6 z4 (fun j h1 h2 => g6.block j h2 (fun e => by injection e with e; (try simp at h1); omega))
      have x6 := (x1.below hB4).grown g6 (fun e => by injection e with e; have := x1.lt; omega)
      have v6 := (v1.below hB4).grown g6 (fun e => by injection e with e; have := v1.lt; omega)
      have B4 := below_and B1 le hB4
      have B6 : Below w.heap.size w w6 := B4.trans (grown_below g6 B4.size (fun k hk => by cases hk; exact Nat.le_trans B1.size hlo))
      go_wp2_with fail
      go_meet
      case rel => exact ⟨_, _, rfl, r6, o6, y6, x6, v6, B6⟩)
  case rest =>
    clear HC HO SK hdw a0 a1 a2 a3 a4 b0 b1 b2 b3 b4 d0 d1 d2 d3 d4 x1 v1 B1 qn1
    obtain ⟨b, rr, rfl, r5, o5, y5, x5, v5, B5⟩ := hcut
    have o5' := o5
    obtain ⟨un, ua, ub, rfl, sn, sa, sb⟩ := o5'
    have yw := y5
    have xw := x5
    obtain ⟨D, hDD⟩ : ∃ D, D = doS ys o who now := ⟨_, rfl⟩
    have hD := doS_any wc _ ys r5 z0 _ o o5 z1 who now
    rw [← hDD] at hD
    have HRD := (show Hid (∀ u, Below w.heap.size w u → Calls Try.prog 22 #[v, .agg #[.int .i64 o.1, vn, va, vb, .int .i64 o.2.2.2.2], .int .i64 who, .int .i64 now] u (RqS u D)) from fun u hu => by
      rw [hDD]
      exact refDoS_any u v ys (h0.mv mov_lea hu.size (Mv.below hu)) _ o (mov_op _ _ _ _ _ _ hall hu.size (Mv.below hu)) who now)
    have hEO := (show Hid (∀ u, Below w.heap.size w u → RL RLea 3 Any u v ys ∧ ROp Any u [.int .i64 o.1, vn, va, vb, .int .i64 o.2.2.2.2] o ∧ Rd u vn o.2.1) from fun u hu => ⟨h0.mv mov_lea hu.size (Mv.below hu), mov_op _ _ _ _ _ _ hall hu.size (Mv.below hu), (rn.mv (Mv.below hu)).1⟩)
    have hOW := (show Hid (∀ u, Below wc.heap.size wc u → RL RLea 3 Any u u7 ys ∧ ROp Any u [.int .i64 o.1, un, ua, ub, .int .i64 o.2.2.2.2] o ∧ Rd u un o.2.1) from fun u hu => ⟨r5.mv mov_lea hu.size (Mv.below hu), mov_op _ _ _ _ _ _ o5 hu.size (Mv.below hu), (sn.mv (Mv.below hu)).1⟩)
    clear sn sa sb r5 o5 hDD
    have e0 := v5.cell (j := 0) rfl
    have e1 := v5.cell (j := 1) rfl
    go_upto_region 5 with (first
      | (refine wl_load rfl _ _ rfl b rfl _ _ y5 _ Try.underlying25 rfl (by kernel_rfl) ?_)
      | (go_at_call 21; refine hD.mono ?_; rintro e w6 ⟨v6, vv6, rfl, hL6, ht6, hb6⟩; obtain ⟨ax6, cx6, rfl, hcx6⟩ := ht6.rt.form))
    obtain ⟨w7, hw7⟩ : ∃ w7, w7 = w6.alloc (.cells #[.int .i64 D.2.1, .slice ax6 D.2.2.length cx6] 30) := ⟨_, rfl⟩
    have y7 : Row w7 w6.heap.size 30 [.int .i64 D.2.1, .slice ax6 D.2.2.length cx6] := by rw [hw7]; exact Row.new w6 30 _
    have hb7 : Below w6.heap.size w6 w7 := by rw [hw7]; exact below_alloc _ _
    rw [← hw7]
    have hc7 : Below wc.heap.size wc w7 := below_and hb6 (Nat.le_refl _) hb7
    have B7 := below_and B5 le hc7
    have x7 := x5.below hc7
    have v7 := v5.below hc7
    have hL7 := hL6.below mov_olea hb7
    have ht7 := ht6.mv (Mv.belowG hb7)
    obtain ⟨b8, hb8⟩ : ∃ b8, b8 = w6.heap.size := ⟨_, rfl⟩
    rw [← hb8] at y7 ⊢
    have hR := HRD.out w7 B7
    clear hw7 hb7 hb6 hL6 ht6 hb8 hD hcx6 e0 e1 HRD
    have e0 := v7.cell (j := 0) rfl
    have e1 := v7.cell (j := 1) rfl
    go_upto_region 6 with (first
      | (refine wl_load rfl _ _ rfl w.heap.size rfl _ _ x7 _ Try.underlying25 rfl (by kernel_rfl) ?_)
      | (go_at_call 22; refine hR.mono ?_; rintro e w8 ⟨v8, vv8, rfl, rl8, rd8, hb8⟩; obtain ⟨ax8, cx8, rfl, hcx8⟩ := rd8.form))
    obtain ⟨w9, hw9⟩ : ∃ w9, w9 = w8.alloc (.cells #[.int .i64 D.2.1, .slice ax8 D.2.2.length cx8] 30) := ⟨_, rfl⟩
    have y9 : Row w9 w8.heap.size 30 [.int .i64 D.2.1, .slice ax8 D.2.2.length cx8] := by rw [hw9]; exact Row.new w8 30 _
    have hb9 : Below w8.heap.size w8 w9 := by rw [hw9]; exact below_alloc _ _
    rw [← hw9]
    have hb79 : Below w7.heap.size w7 w9 := below_and hb8 (Nat.le_refl _) hb9
    have hc9 : Below wc.heap.size wc w9 := below_and hc7 (Nat.le_refl _) hb79
    have B9 := below_and B5 le hc9
    have z9 := y7.below hb79
    have hL9 := hL7.below mov_olea hb79
    have ht9 := ht7.mv (Mv.belowG hb79)
    have rl9 := rl8.mv mov_lea hb9.size (Mv.below hb9)
    have rd9 := rd8.below hb9
    obtain ⟨b9, hb9'⟩ : ∃ b9, b9 = w8.heap.size := ⟨_, rfl⟩
    rw [← hb9'] at y9 ⊢
    clear hw9 hb9' hb9 hb8 hb79 rl8 rd8 hL7 ht7 x7 y7 v7 hc7 B7 hR hcx8 e0 e1
    have hH1 := holder_any w9 u7 ys (hOW.out w9 hc9).1 _ _ (hOW.out w9 hc9).2.2 now
    have HH2 := (show Hid (∀ u, Below w.heap.size w u → Calls Try.prog 23 #[v, vn, .int .i64 now] u fun e w' => e = .returned (.tuple #[.int .i64 (holS ys o.2.1 now).1, .int .i64 (holS ys o.2.1 now).2]) ∧ Below u.heap.size u w') from fun u hu => refHolder_any u v ys (hEO.out u hu).1 _ _ (hEO.out u hu).2.2 now)
    generalize (holS ys o.2.1 now).1 = n1 at *
    generalize (holS ys o.2.1 now).2 = k1 at *
    have e1 := (v5.below hc9).cell (j := 1) rfl
    have e2 := (yw.below hc9).cell (j := 1) rfl
    go_upto_region 7 with (go_at_call 18; refine hH1.mono ?_; rintro e w10 ⟨rfl, hb10⟩)
    have hc10 := below_and hc9 (Nat.le_refl _) hb10
    have e1 := (v5.below hc10).cell (j := 1) rfl
    have e2 := (xw.below hc10).cell (j := 1) rfl
    go_upto_region 8 with (go_at_call 23; refine (HH2.out w10 (below_and B5 le hc10)).mono ?_; rintro e w11 ⟨rfl, hb11⟩)
    have hb911 := below_and hb10 (Nat.le_refl _) hb11
    have hc11 := below_and hc9 (Nat.le_refl _) hb911
    have B11 := below_and B5 le hc11
    have z11 := z9.below hb911
    have y11 := y9.below hb911
    have hL11 := hL9.below mov_olea hb911
    have ht11 := ht9.mv (Mv.belowG hb911)
    have rl11 := rl9.mv mov_lea hb911.size (Mv.below hb911)
    have rd11 := rd9.below hb911
    clear e1 e2 hH1 HH2 hb10 hb11 hb911 hc10 z9 y9 hL9 ht9 rl9 rd9 hc9 B9
    have hR1 := rightS_any w11 u7 ys (hOW.out w11 hc11).1
    have HR2 := (show Hid (∀ u, Below w.heap.size w u → Calls Try.prog 25 #[v] u fun e w' => e = .returned (.bool (decide (rgtS ys))) ∧ Below u.heap.size u w') from fun u hu => refRightS_any u v ys (hEO.out u hu).1)
    have HS1 := (show Hid (∀ u, Below w11.heap.size w11 u → Calls Try.prog 26 #[v6, v8] u fun e w' => e = .returned (.bool true) ∧ Below u.heap.size u w') from fun u hu => sameS_eq u _ _ _ ((Rs.rl hL11).mv mov_lea hu.size (Mv.below hu)) (rl11.mv mov_lea hu.size (Mv.below hu)))
    have HS2 := (show Hid (∀ u, Below w11.heap.size w11 u → Calls Try.prog 16 #[.agg #[.int .i64 D.2.1, .slice ax6 D.2.2.length cx6], .agg #[.int .i64 D.2.1, .slice ax8 D.2.2.length cx8]] u fun e w' => e = .returned (.bool true) ∧ Below u.heap.size u w') from fun u hu => sameR_eq u _ _ _ _ (ht11.rt.1.below hu) (rd11.below hu))
    have hdd : ∀ x : Bool, (x != x) = false := fun x => by cases x <;> rfl
    generalize decide (rgtS ys) = dr at *
    have hd1 := hdd dr
    have hd2 : (n1 != n1) = false := by simp
    have hd3 : (k1 != k1) = false := by simp
    clear hdd
    go_upto_region 10 with (first
      | (go_at_call 24; refine hR1.mono ?_; rintro e w12 ⟨rfl, hb12⟩; have B12 := below_and B11 le hb12)
      | (go_at_call 25; refine (HR2.out w12 B12).mono ?_; rintro e w13 ⟨rfl, hb13⟩; have hc13 := below_and hb12 (Nat.le_refl _) hb13)
      | (go_at_call 16; refine (HS2.out w14 hc14).mono ?_; rintro e w15 ⟨rfl, hb15⟩; have hc15 := below_and hc14 (Nat.le_refl _) hb15)
      | (go_at_call 26; refine (HS1.out w13 hc13).mono ?_; rintro e w14 ⟨rfl, hb14⟩; have hc14 := below_and hc13 (Nat.le_refl _) hb14; have z14 := z11.below hc14; have y14 := y11.below hc14)
      | (refine wl_load_w (by rfl) _ _ rfl b8 rfl _ _ z14 _ Try.underlying30 rfl (by kernel_rfl) ?_)
      | (refine wl_load_w (by rfl) _ _ rfl b9 rfl _ _ y14 _ Try.underlying30 rfl (by kernel_rfl) ?_))
    have hc15w : Below wc.heap.size wc w15 := below_and hc11 (Nat.le_refl _) hc15
    obtain ⟨ao, cap, rs, ts, hv6, hcap1, hcap2, hZ, hAt⟩ := Zap.ofS (hL11.below mov_olea hc15) hc15w (Nat.le_refl _)
    have HAT := (show Hid (∀ i, i < D.1.length → ∃ g cur a mm, ao = some ⟨g, 0, none⟩ ∧ (g, 50, cur) ∈ rs ∧ cur[i * 3]? = some a ∧ (a, mm) ∈ ts) from hAt)
    subst hv6
    clear hAt hL11 ht11 rl11 rd11 y11 z11 z14 y14 hb12 hb13 hb14 hb15 hc13 hc14 hc15 B12 hR1 HR2 HS1 HS2 hd1 hd2 hd3 y5 x5 v5 B11 hc11
    generalize hN : D.1.length = N at *
    have hlm : (N : Int) ≤ 9223372036854775807 := by unfold maxLen at hcap2; omega
    clear hN
    have HZ := (show Hid (Zap wc.heap.size wc w15 rs ts) from hZ)
    clear hZ
    go_wp2_with fail
    go_loopw [92] (fun i wr => ∃ q : Nat, q ≤ N ∧ i = .int .i64 q ∧ Hid (Zap wc.heap.size wc wr rs ts)) (fun i _ => N - (intOf i).toNat)
    case atStart => exact ⟨0, Nat.zero_le _, rfl, HZ⟩
    case round =>
      clear HZ
      obtain ⟨q, hq, rfl, HZ⟩ := hrel
      by_cases hql : q < N
      · obtain ⟨g, cur, a, mm, rfl, hg, ha, hm⟩ := HAT.out q hql
        obtain ⟨l, hl, hot⟩ := HZ.out.txt _ hm
        obtain ⟨_, ab, cb, rfl, hcb, hcb2, _⟩ := hot.rt.1
        have hl' : l.length = mm := hl
        rw [bc_len, hl'] at hm ha hcb
        have c1 := (HZ.out.row _ hg).2.cell ha
        have hcbm : (mm : Int) ≤ 9223372036854775807 := by unfold maxLen at hcb2; omega
        have HM := (show Hid ((Value.slice ab mm cb, mm) ∈ ts) from hm)
        have HG := (show Hid (∀ u, Zap wc.heap.size wc u rs ts → u.cell? ⟨g, q * 3, none⟩ = some (.slice ab mm cb)) from fun u hu => (hu.row _ hg).2.cell ha)
        clear hot hl ha hm hl' hg
        go_wp2_with fail
        go_loopw [101] (fun i wx => ∃ j : Nat, j ≤ mm ∧ i = .int .i64 j ∧ Hid (Zap wc.heap.size wc wx rs ts)) (fun i _ => mm - (intOf i).toNat)
        case atStart => exact ⟨0, Nat.zero_le _, rfl, HZ⟩
        case round =>
          clear HZ c1
          obtain ⟨j, hj, rfl, HZ⟩ := hrel
          by_cases hjl : j < mm
          · have c1 := HG.out _ HZ.out
            obtain ⟨k, kc, kur, y, e, k1', k2, k3, k4, k5, k6, y0, y1⟩ := HZ.out.at HM.out hjl
            injection e with e1 e2 e3
            subst e1 e3
            have c2 := k4.cell k6
            have hx := xor_rng ⟨y0, y1⟩
            go_wp2_with (refine wl_set rfl _ _ _ rfl k j _ rfl rfl _ _ k4 k5 (by kernel_rfl) rfl ?_; intro w16 hr16 hg16)
            go_roundw
            case rel => exact ⟨j + 1, by omega, by go_num, HZ.out.set k3 k4 hr16.out hg16 hx⟩
            case measure => simp [intOf]; omega
          · have hjd : decide ((j : Int) < mm) = false := by simp; omega
            go_wp2_with fail
            go_roundw
            case rel => exact ⟨q + 1, by omega, by go_num, HZ⟩
            case measure => simp [intOf]; omega
      · have hqd : decide ((q : Int) < N) = false := by simp; omega
        have hcb := HZ.out.bel
        have B20 := below_and B5 le hcb
        have HS3 := sameS_eq _ _ _ _ (hOW.out _ hcb).1 (hEO.out _ B20).1
        have HS4 := (show Hid (∀ u, Below wc.heap.size wc u → Calls Try.prog 17 #[.agg #[.int .i64 o.1, un, ua, ub, .int .i64 o.2.2.2.2], .agg #[.int .i64 o.1, vn, va, vb, .int .i64 o.2.2.2.2]] u fun e w' => e = .returned (.bool true) ∧ Below u.heap.size u w') from fun u hu => sameOp_eq u _ _ o (hOW.out u hu).2.1 (hEO.out u (below_and B5 le hu)).2.1)
        go_wp2_with (first
          | (go_at_call 17; refine (HS4.out w22 hc22).mono ?_; rintro e w23 ⟨rfl, hb23⟩)
          | (go_at_call 26; refine HS3.mono ?_; rintro e w22 ⟨rfl, hb22⟩; have hc22 := below_and hcb (Nat.le_refl _) hb22; have y22 := yw.below hc22; have x22 := xw.below hc22)
          | (refine wl_load_w (by rfl) _ _ rfl b rfl _ _ y22 _ Try.underlying25 rfl (by kernel_rfl) ?_)
          | (refine wl_load_w (by rfl) _ _ rfl w.heap.size rfl _ _ x22 _ Try.underlying25 rfl (by kernel_rfl) ?_))
        go_ret
        exact ⟨rfl, below_and (below_and B5 le hc22) le hb23⟩
end Go.Proofs.Ytbnioibeckifbaa
end
