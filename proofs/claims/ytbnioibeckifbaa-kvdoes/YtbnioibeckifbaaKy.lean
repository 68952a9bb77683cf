/- The document's Do. -/
import Derived.Test.YtbnioibeckifbaaKx
set_option linter.unusedVariables false
set_option linter.unusedSimpArgs false
namespace Go.Proofs.Ytbnioibeckifbaa
open Go.RowKit Oct Kvl

theorem flat_inv {k : Nat} : ∀ {rows : List (List Value)} {j : Nat} {v : Value}, (∀ r ∈ rows, r.length = k) → rows.flatten[j]? = some v → ∃ i r j', j = i * k + j' ∧ rows[i]? = some r ∧ r[j']? = some v
  | [], j, v, _, h => by simp at h
  | x :: rows, j, v, hk, h => by
    have hx := hk x (by simp)
    rw [List.flatten_cons] at h
    rcases Nat.lt_or_ge j x.length with hj | hj
    · rw [List.getElem?_append_left hj] at h
      exact ⟨0, x, j, by omega, rfl, h⟩
    · rw [List.getElem?_append_right hj] at h
      obtain ⟨i, r, j', e, h1, h2⟩ := flat_inv (rows := rows) (fun y hy => hk y (by simp [hy])) h
      refine ⟨i + 1, r, j', ?_, by simpa using h1, h2⟩
      rw [Nat.add_mul]
      omega
theorem owns_up {w : World} {B : Nat} {e : TypeId} {k : Nat} {v : Value} {n : Nat} {xs : List Value} (h : w.ownsRow 0 e k v n xs) (hf : Fr B v) : w.ownsRow B e k v n xs :=
  ⟨h.1, by
    rcases h.2 with h | ⟨g, cap, cur, rfl, _, r⟩
    · exact .inl h
    · exact .inr ⟨g, cap, cur, rfl, hf g rfl, r⟩⟩
theorem owns_dn {w : World} {B : Nat} {e : TypeId} {k : Nat} {v : Value} {n : Nat} {xs : List Value} (h : w.ownsRow B e k v n xs) : w.ownsRow 0 e k v n xs ∧ Fr B v :=
  ⟨⟨h.1, by
    rcases h.2 with h | ⟨g, cap, cur, h1, _, r⟩
    · exact .inl h
    · exact .inr ⟨g, cap, cur, h1, Nat.zero_le _, r⟩⟩, fun k hk => (h.lt k hk).1⟩
/-- Entries of another slice are put behind those of the call's own. -/
theorem wl_addN {w0 w : World} {B : Nat} {ops : Array Oper} {rest : List Oper} {o : Oper} {a : Act} {Q : Exit → Act → World → Prop} (hgd : o.guard = none) (s x : Operand)
    (ho : o.op = .call { callee := .builtin .append, args := #[s, x], argTypes := #[22, 22] }) (v : Value) (zs : List PEnt) (hs : a.eval s = v) (hL : LB (RS w0) 37 2 B w v zs) (hB : B ≤ w.heap.size)
    (b off m c : Nat) (src : List (List Value)) (us : List PEnt) (hx : a.eval x = .slice (some ⟨b, off, none⟩) m c) (hm : src.length = m) (h2 : ∀ r ∈ src, r.length = 2) (hc : ∀ (i : Nat) (r : List Value), src[i]? = some r → w.rangeAt b (off + i * 2) r)
    (hA : All2 (RS w0 Any w0) src us) (hb : zs.length + m ≤ 1000)
    (h : ∀ v' w', LB (RS w0) 37 2 B w' v' (zs ++ us) → w.grownBy w' v.ownBlock → wpList Try.prog ops Q rest (a.put o.dst v') w') : wpList Try.prog ops Q (o :: rest) a w := by
  obtain ⟨i0, hi, hz0, hz1, hz2⟩ := info_parts Try.infE
  obtain ⟨rows, h0, hown, hfr, hall⟩ := hL
  have hlen := hall.len
  have h1 : ∀ u ∈ src.flatten, u.oneCell' = true := by
    intro u hu
    obtain ⟨q, hq, huq⟩ := List.mem_flatten.1 hu
    obtain ⟨k, hk, rfl⟩ := List.getElem_of_mem hq
    have := hA.get (List.getElem?_eq_getElem hk) (List.getElem?_eq_getElem (by rw [← hA.len]; exact hk))
    exact one_RE (this w0 (Below.refl _ _)) u huq
  refine wpList_append_own w hgd s x _ ho B 37 i0 _ 2 48 Try.underlying22 hi hz0 hz1 hz2 rfl (by decide) v rows.length rows.flatten hs (owns_up hown hfr) ⟨b, off, none⟩ m c src.flatten hx (by rw [flat_len h2, hm])
    (fun j u hj => by
      obtain ⟨i, r, j', e, g1, g2⟩ := flat_inv h2 hj
      rw [Addr.add_mid, e, ← Nat.add_assoc]
      exact hc i r g1 j' u g2) h1 (by unfold maxLen; omega) (by omega) hB ?_
  intro v' w' hown' hgr _
  obtain ⟨o1, o2⟩ := owns_dn hown'
  refine h v' w' ⟨rows ++ src, fun r hr => ?_, ?_, o2, All2.app (hall.mono fun _ _ h => h) (hA.mono fun _ _ h => h)⟩ hgr
  · rcases List.mem_append.1 hr with hr | hr
    · exact h0 r hr
    · exact h2 r hr
  · rw [List.length_append, List.flatten_append, hm]
    exact o1

/-- The end of the document's Do. -/
def Rq (w : World) (x : List PEnt × Int × List Int) (e : Ending) (w' : World) : Prop :=
  ∃ v' vv, e = .returned (.tuple #[v', .agg #[.int .i64 x.2.1, vv]]) ∧ RL REnt 2 Any w' v' x.1 ∧ Rd w' vv x.2.2 ∧ Below w.heap.size w w'
theorem fI_get {n : List Int} {l : List PEnt} (h : rgtL l) : fI n l = if getR n l = none then -1 else (pos n l : Int) := by
  have := fst_pos (n := n) h.2.1
  split
  · rename_i hg
    rw [if_pos hg] at this
    exact fI_none this
  · rename_i hg
    rw [if_neg hg] at this
    exact fI_some this

set_option maxRecDepth 10000 in
set_option maxHeartbeats 8000000 in
/-- The document's Do. -/
theorem refDo_any (w : World) (v : Value) (ys : List PEnt) (h : RL REnt 2 Any w v ys) (r : List Value) (o : POp) (ho : ROp Any w r o) :
    Calls Try.prog 12 #[v, .agg r.toArray] w (Rq w (doL ys o)) := by
  have le := Nat.le_refl w.heap.size
  have hall := ho
  obtain ⟨ao, cap, rfl, hcap⟩ := h.form
  obtain ⟨k, on, oa, ob, u⟩ := o
  obtain ⟨vn, va, vb, rfl, rn, ra', rb'⟩ := ho
  simp only at rn ra' rb'
  obtain ⟨an, cn, rfl, hcn⟩ := rn.form
  obtain ⟨aa, ca, rfl, hca⟩ := ra'.form
  obtain ⟨ab, cb, rfl, hcb⟩ := rb'.form
  obtain ⟨w0, hw0⟩ : ∃ w0, w0 = (w.alloc (.cells #[.int .i64 k, .slice an on.length cn, .slice aa oa.length ca, .slice ab ob.length cb, .int .i64 u] 25)).alloc (.cells #[.int .i64 0, .slice none 0 0] 30) := ⟨_, rfl⟩
  have x0 : Row w0 w.heap.size 25 [.int .i64 k, .slice an on.length cn, .slice aa oa.length ca, .slice ab ob.length cb, .int .i64 u] := by rw [hw0]; exact rowA (Row.new w 25 _) _
  have r0 : Row w0 (w.heap.size + 1) 30 [.int .i64 0, .slice none 0 0] := by
    rw [hw0]
    have := Row.new (w.alloc (.cells #[.int .i64 k, .slice an on.length cn, .slice aa oa.length ca, .slice ab ob.length cb, .int .i64 u] 25)) 30 [.int .i64 0, .slice none 0 0]
    simpa using this
  have B0 : Below w.heap.size w w0 := by rw [hw0]; exact below_and (below_alloc _ _) le (below_alloc _ _)
  have hs0 : w.heap.size + 2 ≤ w0.heap.size := by rw [hw0]; simp
  have HE := (show Hid (∀ z, Below w.heap.size w z → RL REnt 2 Any z (.slice ao ys.length cap) ys) from fun z hu => h.mv mov_ent hu.size (Mv.below hu))
  have HO := (show Hid (∀ z, Below w.heap.size w z → ROp Any z [.int .i64 k, .slice an on.length cn, .slice aa oa.length ca, .slice ab ob.length cb, .int .i64 u] (k, on, oa, ob, u)) from fun z hu => mov_op _ _ _ _ _ _ hall hu.size (Mv.below hu))
  have HT := (show Hid (RT Any w (.slice an on.length cn) on ∧ RT Any w (.slice aa oa.length ca) oa ∧ RT Any w (.slice ab ob.length cb) ob) from ⟨rn, ra', rb'⟩)
  have HV := (show Hid (RL REnt 2 Any w (.slice ao ys.length cap) ys) from h)
  have FB := (show Hid (∀ {wa wb : World} (c : Int) (vv : Value) (l : List Int), doL ys (k, on, oa, ob, u) = (ys, c, l) → RT Any w vv l → Below w.heap.size w wa → wa.grownBy wb (some (w.heap.size + 1)) → Rq w (doL ys (k, on, oa, ob, u)) (.returned (.tuple #[.slice ao ys.length cap, .agg #[.int .i64 c, vv]])) wb) from fun {wa wb} c vv l hd hv hb hg => by
    have hB := hb.trans (grown_below hg hb.size (fun j hj => by cases hj; omega))
    exact ⟨_, vv, by rw [hd], by rw [hd]; exact HE.out wb hB, by rw [hd]; exact (hv.mv (Mv.below hB)).1, hB⟩)
  have FL := (show Hid (∀ {wa wb : World} (vx : Value) (zs : List PEnt) (B : Nat), doL ys (k, on, oa, ob, u) = (zs, 0, []) → LB (RS w) 37 2 B wa vx zs → w.heap.size + 2 ≤ B → Below w.heap.size w wa → wa.grownBy wb (some (w.heap.size + 1)) → Rq w (doL ys (k, on, oa, ob, u)) (.returned (.tuple #[vx, .agg #[.int .i64 0, .slice none 0 0]])) wb) from fun {wa wb} vx zs B hd hL h2 hb hg => by
    have hB := hb.trans (grown_below hg hb.size (fun j hj => by cases hj; omega))
    have hL' := hL.grownS hg (fun e => by have := hL.fr _ e; omega)
    exact ⟨vx, _, by rw [hd], by rw [hd]; exact hL'.rs hB, by rw [hd]; exact (RT.nil Any wb).1, hB⟩)
  have hR := refRight_any w0 _ ys (HE.out w0 B0)
  clear hall rn ra' rb' hcn hca hcb h
  go_enter Try.func12, Try.ntmps12
  go_upto_region 1 with fail
  rw [← hw0]
  clear hw0
  by_cases hr : rgtL ys
  rotate_left
  · rw [decide_eq_false hr] at hR
    have hd := (show Hid (_ = _) from do_bad (l := ys) (o := (k, on, oa, ob, u)) (fun h => hr h.1))
    go_wp2_with (first
      | (go_at_call 14; refine hR.mono ?_; rintro e w1 ⟨rfl, hb1⟩; have r1 := r0.below hb1)
      | (refine wl_store rfl _ _ _ rfl (w.heap.size + 1) [.int .i64 5, .slice none 0 0] rfl rfl _ _ r1 rfl (by kernel_rfl) (one_res rfl) ?_; intro w9 hr9 hg9))
    refine bodyPost_ret (results_tc rfl _ _ (w.heap.size + 1) _ _ (0, 0) _ (by rfl) hr9.out Try.underlying30 rfl (by kernel_rfl)) rfl ?_
    exact FB.out 5 _ [] hd.out (RT.nil _ _) (below_and B0 le hb1) hg9
  rw [decide_eq_true hr] at hR
  have HP := (show Hid (∀ z, Below w.heap.size w z → Calls Try.prog 32 #[.agg #[.int .i64 k, .slice an on.length cn, .slice aa oa.length ca, .slice ab ob.length cb, .int .i64 u]] z fun e w' => e = .returned (.bool (decide (wok (k, on, oa, ob, u)))) ∧ Below z.heap.size z w') from fun z hz => rightOp_any z _ _ (HO.out z hz))
  by_cases hw : wok (k, on, oa, ob, u)
  rotate_left
  · rw [decide_eq_false hw] at HP
    have hd := (show Hid (_ = _) from do_bad (l := ys) (o := (k, on, oa, ob, u)) (fun h => hw h.2.1))
    go_wp2_with (first
      | (go_at_call 14; refine hR.mono ?_; rintro e w1 ⟨rfl, hb1⟩; have x1 := x0.below hb1; have B1 := below_and B0 le hb1)
      | (refine wl_load_w (by rfl) _ _ rfl w.heap.size rfl _ _ x1 _ Try.underlying25 rfl (by kernel_rfl) ?_)
      | (go_at_call 32; refine (HP.out w1 B1).mono ?_; rintro e w2 ⟨rfl, hb2⟩; have r2 := (r0.below hb1).below hb2)
      | (refine wl_store rfl _ _ _ rfl (w.heap.size + 1) [.int .i64 5, .slice none 0 0] rfl rfl _ _ r2 rfl (by kernel_rfl) (one_res rfl) ?_; intro w9 hr9 hg9))
    refine bodyPost_ret (results_tc rfl _ _ (w.heap.size + 1) _ _ (0, 0) _ (by rfl) hr9.out Try.underlying30 rfl (by kernel_rfl)) rfl ?_
    exact FB.out 5 _ [] hd.out (RT.nil _ _) (below_and B1 le hb2) hg9
  rw [decide_eq_true hw] at HP
  by_cases hk : k ≤ 4
  rotate_left
  · have hd := (show Hid (_ = _) from do_bad (l := ys) (o := (k, on, oa, ob, u)) (fun h => hk h.2.2))
    have hk' : 4 < k := by omega
    go_wp2_with (first
      | (go_at_call 14; refine hR.mono ?_; rintro e w1 ⟨rfl, hb1⟩; have x1 := x0.below hb1; have B1 := below_and B0 le hb1)
      | (refine wl_load_w (by rfl) _ _ rfl w.heap.size rfl _ _ x1 _ Try.underlying25 rfl (by kernel_rfl) ?_)
      | (go_at_call 32; refine (HP.out w1 B1).mono ?_; rintro e w2 ⟨rfl, hb2⟩; have r2 := (r0.below hb1).below hb2; have c2 := (x1.below hb2).cell (j := 0) rfl)
      | (refine wl_store rfl _ _ _ rfl (w.heap.size + 1) [.int .i64 5, .slice none 0 0] rfl rfl _ _ r2 rfl (by kernel_rfl) (one_res rfl) ?_; intro w9 hr9 hg9))
    refine bodyPost_ret (results_tc rfl _ _ (w.heap.size + 1) _ _ (0, 0) _ (by rfl) hr9.out Try.underlying30 rfl (by kernel_rfl)) rfl ?_
    exact FB.out 5 _ [] hd.out (RT.nil _ _) (below_and B1 le hb2) hg9
  have hk' : decide (4 < k) = false := by simp; omega
  have hd := (show Hid (doL ys (k, on, oa, ob, u) = doR ys (k, on, oa, ob, u)) from do_yes (l := ys) (o := (k, on, oa, ob, u)) hr hw hk)
  go_upto_region 3 with (first
    | (go_at_call 14; refine hR.mono ?_; rintro e w1 ⟨rfl, hb1⟩; have x1 := x0.below hb1; have B1 := below_and B0 le hb1)
    | (refine wl_load_w (by rfl) _ _ rfl w.heap.size rfl _ _ x1 _ Try.underlying25 rfl (by kernel_rfl) ?_)
    | (go_at_call 32; refine (HP.out w1 B1).mono ?_; rintro e w2 ⟨rfl, hb2⟩; have r2 := (r0.below hb1).below hb2; have c2 := (x1.below hb2).cell (j := 0) rfl))
  have x2 := x1.below hb2
  have B2 := below_and B1 le hb2
  have s2 : w.heap.size + 2 ≤ w2.heap.size := by have := hb1.size; have := hb2.size; omega
  clear hR HP r0 x0 x1 B0 B1 hb1 hb2 c2 hk' hs0
  have hF := refFind_any w2 _ ys (HE.out w2 B2) _ on (HT.out.1.mv (Mv.below B2)).1
  rw [fI_get hr] at hF
  have b1 := x2.cell (j := 1) rfl
  go_upto_region 4 with (go_at_call 33; refine hF.mono ?_; rintro e w3 ⟨rfl, hb3⟩)
  have x3 := x2.below hb3
  have r3 := r2.below hb3
  have B3 := below_and B2 le hb3
  have s3 : w.heap.size + 2 ≤ w3.heap.size := by have := hb3.size; omega
  have d0 := x3.cell (j := 0) rfl
  have d1 := x3.cell (j := 1) rfl
  have d2 := x3.cell (j := 2) rfl
  have d3 := x3.cell (j := 3) rfl
  clear hF b1 x2 r2 B2 s2 hb3
  have HRG := (show Hid (rgtL ys) from hr)
  have HD := hd
  have HK := (show Hid ((1 ≤ k) ∧ k ≤ 4) from ⟨hw.1.1, hk⟩)
  clear hr hw hk hd
  have HW1 := (show Hid (Calls Try.prog 34 #[.slice ao ys.length cap, .slice an on.length cn, .slice aa oa.length ca] w3 fun e w' => ∃ v', e = .returned v' ∧ LB (RS w) 37 2 w3.heap.size w' v' (putR on oa ys) ∧ Below w3.heap.size w3 w') by
    have := refWith_any w w3 B3 _ ys HV.out HRG.out.1 _ _ on oa HT.out.1 HT.out.2.1
    rw [wi_put HRG.out.2.1] at this
    exact this)
  cases hg : getR on ys with
  | none =>
    rw [if_pos rfl]
    have HG := (show Hid (getR on ys = none) from hg)
    clear hg
    by_cases k2 : k = 2
    rotate_left
    · have k2' : (k != 2) = true := by simp [k2]
      have HDD := (show Hid (doL ys (k, on, oa, ob, u) = (ys, 1, [])) by show _ = _; rw [HD.out]; unfold doR; simp only; rw [HG.out]; exact if_neg k2)
      clear k2
      go_wp2_with (first
        | (refine wl_store rfl _ _ _ rfl (w.heap.size + 1) [.int .i64 1, .slice none 0 0] rfl rfl _ _ r3 rfl (by kernel_rfl) (one_res rfl) ?_; intro w9 hr9 hg9))
      refine bodyPost_ret (results_tc rfl _ _ (w.heap.size + 1) _ _ (0, 0) _ (by rfl) hr9.out Try.underlying30 rfl (by kernel_rfl)) rfl ?_
      exact FB.out 1 _ [] HDD.out (RT.nil _ _) B3 hg9
    subst k2
    by_cases h64 : ys.length = 64
    · have HDD := (show Hid (doL ys (2, on, oa, ob, u) = (ys, 3, [])) by show _ = _; rw [HD.out]; unfold doR; simp only; rw [HG.out]; simp only [if_true]; exact if_pos (by omega))
      have h64' : ((ys.length : Int) == 64) = true := by simp [h64]
      clear h64
      go_wp2_with (first
        | (refine wl_store rfl _ _ _ rfl (w.heap.size + 1) [.int .i64 3, .slice none 0 0] rfl rfl _ _ r3 rfl (by kernel_rfl) (one_res rfl) ?_; intro w9 hr9 hg9))
      refine bodyPost_ret (results_tc rfl _ _ (w.heap.size + 1) _ _ (0, 0) _ (by rfl) hr9.out Try.underlying30 rfl (by kernel_rfl)) rfl ?_
      exact FB.out 3 _ [] HDD.out (RT.nil _ _) B3 hg9
    have HDD := (show Hid (doL ys (2, on, oa, ob, u) = (putR on oa ys, 0, [])) by show _ = _; rw [HD.out]; unfold doR; simp only; rw [HG.out]; simp only [if_true]; exact if_neg (by have := HRG.out.1; omega))
    have h64' : ((ys.length : Int) == 64) = false := by simp; omega
    clear h64
    go_wp2_with (first
      | (go_at_call 34; refine HW1.out.mono ?_; rintro e w4 ⟨v4, rfl, hL4, hb4⟩; have r4 := r3.below hb4)
      | (refine wl_store rfl _ _ _ rfl (w.heap.size + 1) [.int .i64 0, .slice none 0 0] rfl rfl _ _ r4 rfl (by kernel_rfl) (one_res rfl) ?_; intro w9 hr9 hg9))
    refine bodyPost_ret (results_tc rfl _ _ (w.heap.size + 1) _ _ (0, 0) _ (by rfl) hr9.out Try.underlying30 rfl (by kernel_rfl)) rfl ?_
    exact FL.out _ _ _ HDD.out hL4 s3 (below_and B3 le hb4) hg9
  | some uu =>
    rw [if_neg (by simp)]
    have HG := (show Hid (getR on ys = some uu) from hg)
    have hP := get_some hg
    clear hg
    obtain ⟨p, hp⟩ : ∃ p, p = pos on ys := ⟨_, rfl⟩
    have HDEL := (show Hid (delR on ys = ys.take p ++ ys.drop (p + 1)) by show _ = _; rw [hp]; exact del_old HG.out)
    rw [← hp] at hP ⊢
    clear hp
    have hpN : p < ys.length := (List.getElem?_eq_some_iff.1 hP).1
    obtain ⟨rows, ⟨hr2, hcase⟩, hA⟩ := HV.out
    have hlen := hA.len
    rcases hcase with ⟨ao', cap', _, e2, _⟩ | ⟨b, off, cap', hve, hcc, hmm, hpos, _, hbb, hcells⟩
    · rw [e2] at hlen; simp at hlen; omega
    injection hve with e1 e2 e3
    subst e1 e3
    clear e2
    rw [hlen] at hcc
    have hrp := List.getElem?_eq_getElem (l := rows) (i := p) (by omega)
    have hrng := hcells p _ hrp
    obtain ⟨s1, s2, hrr, t1, t2⟩ := hA.get hrp hP
    rw [hrr] at hrng
    simp only at t1 t2
    obtain ⟨a2, c2, rfl, hc2⟩ := t2.form
    have m1 : w3.cell? ⟨b, off + p * 2 + 1, none⟩ = some (.slice a2 uu.length c2) := (B3.cell (p := ⟨b, off + p * 2 + 1, none⟩) hbb).trans (hrng 1 _ rfl)
    have HSR := (show Hid ((∀ r ∈ rows, r.length = 2) ∧ (∀ (i : Nat) (r : List Value), rows[i]? = some r → w.rangeAt b (off + i * 2) r) ∧ All2 (REnt Any w) rows ys ∧ rows.length = ys.length) from ⟨hr2, hcells, hA, hlen⟩)
    have hp0 : decide ((p : Int) < 0) = false := by simp
    have HT2 := (show Hid (RT Any w (.slice a2 uu.length c2) uu) from t2)
    have h64 := HRG.out.1
    clear hrng t1 t2 hP hr2 hcells hA hlen hpos hrr hrp
    have q0 := r3.cell (j := 0) rfl
    have q1 := r3.cell (j := 1) rfl
    have z0 := r3.frozen 0
    have z1 := r3.frozen 1
    by_cases k1 : k = 1
    · subst k1
      have HDD := (show Hid (doL ys (1, on, oa, ob, u) = (ys, 0, uu)) by show _ = _; rw [HD.out]; unfold doR; simp only; rw [HG.out]; rfl)
      go_wp2_with fail
      go_region
      have hr9 := (r3.set 0 (.int .i64 0)).set 1 (.slice a2 uu.length c2)
      have hg9 := grown_to_drew (grown_trans (grown_set w3 (w.heap.size + 1) 0 (.int .i64 0)) (grown_set _ (w.heap.size + 1) 1 (.slice a2 uu.length c2)) (.inl rfl))
      go_wp2_with fail
      refine bodyPost_ret (results_tc rfl _ _ (w.heap.size + 1) _ _ (0, 0) _ (by rfl) hr9 Try.underlying30 rfl (by kernel_rfl)) rfl ?_
      exact FB.out 0 _ uu HDD.out HT2.out B3 hg9
    have k1' : (k == 1) = false := by simp [k1]
    by_cases k2 : k = 2
    · subst k2
      have HDD := (show Hid (doL ys (2, on, oa, ob, u) = (putR on oa ys, 0, [])) by show _ = _; rw [HD.out]; unfold doR; simp only; rw [HG.out]; rfl)
      clear q0 q1 z0 z1 m1 k1 k1'
      go_wp2_with (first
        | (go_at_call 34; refine HW1.out.mono ?_; rintro e w4 ⟨v4, rfl, hL4, hb4⟩; have r4 := r3.below hb4)
        | (refine wl_store rfl _ _ _ rfl (w.heap.size + 1) [.int .i64 0, .slice none 0 0] rfl rfl _ _ r4 rfl (by kernel_rfl) (one_res rfl) ?_; intro w9 hr9 hg9))
      refine bodyPost_ret (results_tc rfl _ _ (w.heap.size + 1) _ _ (0, 0) _ (by rfl) hr9.out Try.underlying30 rfl (by kernel_rfl)) rfl ?_
      exact FL.out _ _ _ HDD.out hL4 s3 (below_and B3 le hb4) hg9
    have k2' : (k == 2) = false := by simp [k2]
    by_cases k3 : k = 3
    · subst k3
      clear k1 k2 k1' k2'
      have HS := (show Hid (∀ z, Below w.heap.size w z → Calls Try.prog 35 #[.slice a2 uu.length c2, .slice aa oa.length ca] z fun e w' => e = .returned (.bool (decide (uu = oa))) ∧ w' = z) from fun z hz => same_any z _ _ _ _ (HT2.out.mv (Mv.below hz)).1 (HT.out.2.1.mv (Mv.below hz)).1)
      go_wp2_with fail
      by_cases hq : uu = oa
      · rw [decide_eq_true hq] at HS
        have HDD := (show Hid (doL ys (3, on, oa, ob, u) = (putR on ob ys, 0, [])) by show _ = _; rw [HD.out]; unfold doR; simp only; rw [HG.out]; exact if_pos hq)
        clear hq
        go_big_quiet ((go_at_call 35; exact quiet_as (HS.out _ (bel_dnE B3 _)) rfl))
        have B4 := bel_dnE B3 nq
        have r4 : Row (w3.drewN nq) (w.heap.size + 1) 30 [.int .i64 0, .slice none 0 0] := r3
        have f1 : (w3.drewN nq).cell? ⟨w.heap.size, 1, none⟩ = some (.slice an on.length cn) := d1
        have f3 : (w3.drewN nq).cell? ⟨w.heap.size, 3, none⟩ = some (.slice ab ob.length cb) := d3
        have s4 : w.heap.size + 2 ≤ (w3.drewN nq).heap.size := s3
        obtain ⟨w4, hw4⟩ : ∃ w4, w4 = w3.drewN nq := ⟨_, rfl⟩
        rw [← hw4] at B4 r4 f1 f3 s4 ⊢
        have HW2 := refWith_any w w4 B4 _ ys HV.out HRG.out.1 _ _ on ob HT.out.1 HT.out.2.2
        rw [wi_put HRG.out.2.1] at HW2
        clear q0 q1 z0 z1 m1 d1 d2 d3 hw4 HS
        go_wp2_with (first
          | (go_at_call 34; refine HW2.mono ?_; rintro e w5 ⟨v5, rfl, hL5, hb5⟩; have r5 := r4.below hb5)
          | (refine wl_store rfl _ _ _ rfl (w.heap.size + 1) [.int .i64 0, .slice none 0 0] rfl rfl _ _ r5 rfl (by kernel_rfl) (one_res rfl) ?_; intro w9 hr9 hg9))
        refine bodyPost_ret (results_tc rfl _ _ (w.heap.size + 1) _ _ (0, 0) _ (by rfl) hr9.out Try.underlying30 rfl (by kernel_rfl)) rfl ?_
        exact FL.out _ _ _ HDD.out hL5 s4 (below_and B4 le hb5) hg9
      · rw [decide_eq_false hq] at HS
        have HDD := (show Hid (doL ys (3, on, oa, ob, u) = (ys, 2, uu)) by show _ = _; rw [HD.out]; unfold doR; simp only; rw [HG.out]; exact if_neg hq)
        clear hq
        go_big_quiet ((go_at_call 35; exact quiet_as (HS.out _ (bel_dnE B3 _)) rfl))
        have B4 := bel_dnE B3 nq
        have r4 : Row (w3.drewN nq) (w.heap.size + 1) 30 [.int .i64 0, .slice none 0 0] := r3
        have m4 : (w3.drewN nq).cell? ⟨b, off + p * 2 + 1, none⟩ = some (.slice a2 uu.length c2) := m1
        obtain ⟨w4, hw4⟩ : ∃ w4, w4 = w3.drewN nq := ⟨_, rfl⟩
        rw [← hw4] at B4 r4 m4 ⊢
        clear q0 q1 z0 z1 m1 d1 d2 d3 hw4 HS
        have q0 := r4.cell (j := 0) rfl
        have q1 := r4.cell (j := 1) rfl
        have z0 := r4.frozen 0
        have z1 := r4.frozen 1
        go_wp2_with fail
        go_region
        have hr9 := (r4.set 0 (.int .i64 2)).set 1 (.slice a2 uu.length c2)
        have hg9 := grown_to_drew (grown_trans (grown_set w4 (w.heap.size + 1) 0 (.int .i64 2)) (grown_set _ (w.heap.size + 1) 1 (.slice a2 uu.length c2)) (.inl rfl))
        go_wp2_with fail
        refine bodyPost_ret (results_tc rfl _ _ (w.heap.size + 1) _ _ (0, 0) _ (by rfl) hr9 Try.underlying30 rfl (by kernel_rfl)) rfl ?_
        exact FB.out 2 _ uu HDD.out HT2.out B4 hg9
    have k3' : (k == 3) = false := by simp [k3]
    have HDD := (show Hid (doL ys (k, on, oa, ob, u) = (ys.take p ++ ys.drop (p + 1), 0, [])) by show _ = _; rw [HD.out]; unfold doR; simp only; rw [HG.out]; simp only; rw [if_neg k1, if_neg k2, if_neg k3, HDEL.out])
    clear q0 q1 z0 z1 m1 d1 d2 d3 k1 k2 k3
    have hF0 : LB (RS w) 37 2 w3.heap.size (w3.alloc (.cells #[] 37)) (.slice (some ⟨w3.heap.size, 0, none⟩) 0 0) [] := LB.fresh _ _ _ _ _ (Nat.le_refl _)
    have B4 : Below w.heap.size w (w3.alloc (.cells #[] 37)) := below_and B3 le (below_alloc _ _)
    have hs4 : w3.heap.size ≤ (w3.alloc (.cells #[] 37)).heap.size := (below_alloc w3 (.cells #[] 37)).size
    have r4 : Row (w3.alloc (.cells #[] 37)) (w.heap.size + 1) 30 [.int .i64 0, .slice none 0 0] := r3.below (below_alloc _ _)
    have HTK := (show Hid ((rows.take p).length = p ∧ (∀ r ∈ rows.take p, r.length = 2) ∧ (∀ z, Below w.heap.size w z → ∀ (i : Nat) (r : List Value), (rows.take p)[i]? = some r → z.rangeAt b (off + i * 2) r) ∧ All2 (RS w Any w) (rows.take p) (ys.take p)) from by
      obtain ⟨g1, g2, g3, g4⟩ := HSR.out
      refine ⟨by rw [List.length_take]; omega, fun r hr => g1 r (List.mem_of_mem_take hr), fun z hz i r hi => ?_, (g3.take p).mono fun r y h => RS.of h _ _⟩
      rw [List.getElem?_take] at hi
      split at hi
      · exact rangeAt_block (g2 i r hi) (hz.block b hbb)
      · cases hi)
    have HDR := (show Hid ((rows.drop (p + 1)).length = ys.length - (p + 1) ∧ (∀ r ∈ rows.drop (p + 1), r.length = 2) ∧ (∀ z, Below w.heap.size w z → ∀ (i : Nat) (r : List Value), (rows.drop (p + 1))[i]? = some r → z.rangeAt b (off + (p + 1) * 2 + i * 2) r) ∧ All2 (RS w Any w) (rows.drop (p + 1)) (ys.drop (p + 1))) from by
      obtain ⟨g1, g2, g3, g4⟩ := HSR.out
      refine ⟨by rw [List.length_drop]; omega, fun r hr => g1 r (List.mem_of_mem_drop hr), fun z hz i r hi => ?_, (g3.drop (p + 1)).mono fun r y h => RS.of h _ _⟩
      rw [List.getElem?_drop] at hi
      have := rangeAt_block (g2 _ r hi) (hz.block b hbb)
      rw [Nat.add_mul, ← Nat.add_assoc] at this
      exact this)
    go_upto_region 18 with (at_builtin; refine wl_addN (w0 := w) (B := w3.heap.size) rfl _ _ rfl (.slice (some ⟨w3.heap.size, 0, none⟩) 0 0) [] rfl hF0 hs4 b off p cap (rows.take p) (ys.take p) rfl HTK.out.1 HTK.out.2.1 (HTK.out.2.2.1 _ B4) HTK.out.2.2.2 (by simp only [List.length_nil]; omega) ?_; intro v5 w5 hL5 hg5)
    have hg5 : (w3.alloc (.cells #[] 37)).grownBy w5 (some w3.heap.size) := hg5
    have B5 : Below w.heap.size w w5 := B4.trans (grown_below hg5 B4.size (fun j hj => by cases hj; omega))
    have r5 := r4.grown hg5 (fun e => by injection e with e; omega)
    have s5 : w3.heap.size ≤ w5.heap.size := Nat.le_trans hs4 hg5.size
    rw [List.nil_append] at hL5
    have htl : (ys.take p).length = p := by rw [List.length_take]; omega
    have HTL := (show Hid ((ys.take p).length = p) from htl)
    clear htl hF0 B4 r4 hg5 hs4
    by_cases hci : cap = p + 1
    · have hdn : ys.drop (p + 1) = [] := List.drop_of_length_le (by omega)
      rw [hdn] at HDD
      have hNp : ys.length - (p + 1) = 0 := by omega
      have HNP := (show Hid (ys.length - (p + 1) = 0) from hNp)
      clear hdn hNp
      subst hci
      go_wp2_with (first
        | (at_builtin; refine wl_addN (w0 := w) (B := w3.heap.size) rfl _ _ rfl v5 (ys.take p) rfl hL5 s5 b off (ys.length - (p + 1)) 0 [] [] (by simp [Act.eval, Act.put]; omega) HNP.out.symm (fun r hr => by cases hr) (fun i r hr => by simp at hr) trivial (by rw [HTL.out]; omega) ?_; intro v6 w6 hL6 hg6; have B6 : Below w.heap.size w w6 := B5.trans (grown_below hg6 B5.size (fun j hj => Nat.le_trans B3.size (hL5.fr j hj))); have r6 := r5.grown hg6 (fun e => by have := hL5.fr _ e; omega))
        | (refine wl_store rfl _ _ _ rfl (w.heap.size + 1) [.int .i64 0, .slice none 0 0] rfl rfl _ _ r6 rfl (by kernel_rfl) (one_res rfl) ?_; intro w9 hr9 hg9))
      refine bodyPost_ret (results_tc rfl _ _ (w.heap.size + 1) _ _ (0, 0) _ (by rfl) hr9.out Try.underlying30 rfl (by kernel_rfl)) rfl ?_
      exact FL.out _ _ _ HDD.out hL6 s3 B6 hg9
    · go_wp2_with (first
        | (at_builtin; refine wl_addN (w0 := w) (B := w3.heap.size) rfl _ _ rfl v5 (ys.take p) rfl hL5 s5 b (off + (p + 1) * 2) (ys.length - (p + 1)) (cap - (p + 1)) (rows.drop (p + 1)) (ys.drop (p + 1)) (by simp [Act.eval, Act.put, hci]) HDR.out.1 HDR.out.2.1 (HDR.out.2.2.1 _ B5) HDR.out.2.2.2 (by rw [HTL.out]; omega) ?_; intro v6 w6 hL6 hg6; have B6 : Below w.heap.size w w6 := B5.trans (grown_below hg6 B5.size (fun j hj => Nat.le_trans B3.size (hL5.fr j hj))); have r6 := r5.grown hg6 (fun e => by have := hL5.fr _ e; omega))
        | (refine wl_store rfl _ _ _ rfl (w.heap.size + 1) [.int .i64 0, .slice none 0 0] rfl rfl _ _ r6 rfl (by kernel_rfl) (one_res rfl) ?_; intro w9 hr9 hg9))
      refine bodyPost_ret (results_tc rfl _ _ (w.heap.size + 1) _ _ (0, 0) _ (by rfl) hr9.out Try.underlying30 rfl (by kernel_rfl)) rfl ?_
      exact FL.out _ _ _ HDD.out hL6 s3 B6 hg9
end Go.Proofs.Ytbnioibeckifbaa
