/- catenarylaw18.ChoosePicks: its walk. Written by mk20p.py. -/
import Derived.Test.YtgbfmccecnfooaaCABT
import Derived.Test.YtgbfmccecnfooaaCABU
import Derived.Test.YtgbfmccecnfooaaCABQ
import Derived.Test.YtgbfmccecnfooaaCABK
set_option linter.unusedSimpArgs false
set_option linter.unusedVariables false
namespace Go.Proofs.Ytgbfmccecnfooaa
open Go.RowKit Oct Bal
theorem Try.infRepC : (Try.prog.info? 30).map (fun i => (i.zero, i.size, i.bytes)) = some (some (.agg #[.int .i64 0, .int .i64 0, .int .i64 0, .int .i64 0, .slice none 0 0, .slice none 0 0, .slice none 0 0, .slice none 0 0]), 8, 128) := by kernel_rfl
theorem RT.lenB {G : Nat → Prop} {w : World} {v : Value} {l : List Int} (h : RT G w v l) : (l.length : Int) ≤ 9223372036854775807 := by
  obtain ⟨_, _, _, e, h1, h2, _⟩ := h.1
  unfold maxLen at h2
  rw [bc_len] at h1
  omega
/-- A row of a list that is built, and where it lies. -/
theorem LB.atR {α : Type} {R : (Nat → Prop) → World → List Value → α → Prop} {T : TypeId} {k B : Nat} {w : World} {v : Value} {ys : List α} (h : LB R T k B w v ys) (hl : 0 < ys.length) :
    ∃ g cap, v = .slice (some ⟨g, 0, none⟩) ys.length cap ∧ cap ≤ maxLen ∧ ys.length ≤ cap ∧ B ≤ g ∧ g < w.heap.size ∧ ∀ (i : Nat) (a : α), ys[i]? = some a → ∃ r, r.length = k ∧ w.rangeAt g (i * k) r ∧ R (fun b => B ≤ b ∧ v.ownBlock ≠ some b) w r a := by
  obtain ⟨rows, h0, h1, h2, h3⟩ := h
  have hlen := h3.len
  rcases h1.2 with ⟨_, h4⟩ | ⟨g, cap, cur, hv, _, hg, h4, h5, _⟩
  · omega
  · refine ⟨g, cap, by rw [hv, hlen], h5, by omega, h2 g (by rw [hv]; rfl), (Array.getElem?_eq_some_iff.1 hg).1, fun i a ha => ?_⟩
    have hi : i < rows.length := by rw [hlen]; exact (List.getElem?_eq_some_iff.1 ha).1
    have hr := List.getElem?_eq_getElem hi
    refine ⟨rows[i], h0 _ (List.getElem_mem hi), fun j u hu => ?_, h3.get hr ha⟩
    subst hv
    have := World.ownsRow.cells h1 (g := g) rfl (i * k + j) u (flat_at h0 hr hu)
    rw [Addr.add_mid] at this
    simpa using this
set_option maxRecDepth 10000 in
set_option maxHeartbeats 8000000 in
theorem picksL_any (W : World) (vv : Value) (ys : List PRep) (k : Int) (hvs : RL RRep 8 Any W vv ys) (hz : szL 128 szR ys) (hbd : ∀ r ∈ ys, bdR r) (hsum : (allP ys).length * 112 ≤ 140737488355328) :
    Calls Try.prog 3 #[vv, .int .i64 k] W fun e w' => e = .returned (.bool true) ∧ Below W.heap.size W w' := by
  obtain ⟨aa, ca, rfl, _⟩ := hvs.form
  have hlv := len_rep hvs
  go_enter Try.func3, Try.ntmps3
  go_upto_region 3 with (go_at_call 4; refine (chooseAlive_any W).mono ?_; rintro e w1 ⟨rfl, b1⟩)
  obtain ⟨w2, hw2⟩ : ∃ u, u = w1.alloc (.cells #[] 30) := ⟨_, rfl⟩
  have b2 : Below w1.heap.size w1 w2 := by rw [hw2]; exact below_alloc _ _
  have hL2 := LB.fresh RRep 30 8 w1.heap.size w1 (Nat.le_refl _)
  rw [← hw2] at hL2
  go_upto_region 4 with fail
  rw [← hw2]
  clear hw2
  have BW2 := below_and b1 (Nat.le_refl _) b2
  have hs1 := b1.size
  have hlen128 := hz.1
  have b2s := b2.size
  clear b1 b2
  go_wp2_with fail
  go_loopw [5, 18] (fun l j wr => ∃ n : Nat, n ≤ ys.length ∧ j = .int .i64 n ∧ LB RRep 30 8 w1.heap.size wr l (ys.take n) ∧ Below W.heap.size W wr ∧ w1.heap.size ≤ wr.heap.size) (fun _ j _ => ys.length - (intOf j).toNat)
  case atStart => exact ⟨0, by omega, rfl, hL2, BW2, b2s⟩
  case round =>
    clear hL2 BW2
    obtain ⟨n, hn, rfl, hL, hB, hsz⟩ := hrel
    obtain ⟨PL, hPL⟩ : ∃ PL, PL = ys.take n := ⟨_, rfl⟩
    have hln : PL.length = n := by rw [hPL, List.length_take]; omega
    rw [← hPL] at hL
    have HPL := (show Hid (PL = ys.take n ∧ PL.length = n) from ⟨hPL, hln⟩)
    clear hPL hln
    obtain ⟨la, lc, rfl⟩ := hL.fmC
    by_cases hnl : n < ys.length
    case pos =>
      obtain ⟨A, hA⟩ : ∃ A, ys[n]? = some A := ⟨_, List.getElem?_eq_getElem hnl⟩
      obtain ⟨bv, off, cap, hve, _, _, _, hbv, hat⟩ := hvs.at (by omega)
      obtain ⟨rvv, _, hrng, rd, rs, rp, rg, rfl, t1, t2, t3, t4⟩ := hat n _ hA
      injection hve with hv1 hv2 hv3
      subst hv1 hv3
      clear hv2 hat
      have hrng := rangeAt_block hrng (hB.block bv hbv)
      have hrow0 := Row.new wr 30 [.int .i64 0, .int .i64 0, .int .i64 0, .int .i64 0, .slice none 0 0, .slice none 0 0, .slice none 0 0, .slice none 0 0]
      have hon := one_RRep (G := Any) (w := W) (x := A) ⟨rd, rs, rp, rg, rfl, t1, t2, t3, t4⟩
      go_upto_region 7 with (first
        | (refine wpList_load_mid rfl _ _ rfl bv (off + n * 8) rfl [.int .i64 A.1.1, .int .i64 A.1.2, .int .i64 A.2.1, .int .i64 A.2.2.1, rd, rs, rp, rg] _ hrng Try.underlying30 rfl (by kernel_rfl) ?_)
        | (refine wl_store rfl _ _ _ rfl wr.heap.size [.int .i64 A.1.1, .int .i64 A.1.2, .int .i64 A.2.1, .int .i64 A.2.2.1, rd, rs, rp, rg] rfl rfl _ _ hrow0 rfl (by kernel_rfl) hon ?_; intro w8 rR g8))
      have b8 : Below wr.heap.size wr w8 := (below_alloc wr (.cells ([.int .i64 0, .int .i64 0, .int .i64 0, .int .i64 0, .slice none 0 0, .slice none 0 0, .slice none 0 0, .slice none 0 0] : List Value).toArray 30)).trans (grown_below g8 (by simp) (fun k hk => by cases hk; exact Nat.le_refl _))
      have rR := rR.out
      have hB8 := below_and hB (Nat.le_refl _) b8
      obtain ⟨cR, hcR⟩ : ∃ c, c = wr.heap.size := ⟨_, rfl⟩
      rw [← hcR] at rR ⊢
      clear hrow0 g8 hrng hon
      clear hcR
      have hcp := copyReport_any w8 [.int .i64 A.1.1, .int .i64 A.1.2, .int .i64 A.2.1, .int .i64 A.2.2.1, rd, rs, rp, rg] A ⟨_, _, _, _, rfl, t1.mv (Mv.below hB8), t2.mv mov_vote hB8.size (Mv.below hB8), t3.mv mov_prep hB8.size (Mv.below hB8), t4.mv (Mv.below hB8)⟩ (hz.2 A (List.mem_of_getElem? hA))
      have hst : ys.take (n + 1) = PL ++ [A] := by rw [List.take_add_one, hA, HPL.out.1]; rfl
      have HST := (show Hid (_ = _) from hst)
      have hL8 := hL.below mov_rep b8
      have hLlt := hL8.lt
      have h8s : w1.heap.size ≤ w8.heap.size := Nat.le_trans hsz b8.size
      clear hst hA b8 hL t1 t2 t3 t4 hB
      go_wp2_with (first
        | (refine wl_load rfl _ _ rfl cR rfl _ _ rR _ Try.underlying30 rfl (by kernel_rfl) ?_)
        | (go_at_call 5; refine hcp.mono ?_; rintro e w9 ⟨r9, rfl, hr9, b9⟩; have hL9 := hL8.below mov_rep b9; have h9s := b9.size; have hone := one_RRep hr9; obtain ⟨xd, xs, xp, xg, rfl, f1, f2, f3, f4⟩ := hr9)
        | (at_builtin; go_loud (refine wl_pushS mov_rep rfl _ _ _ rfl 30 8 128 _ Try.underlying22 Try.infRepC rfl (by decide) w1.heap.size (.slice la PL.length lc) PL rfl hL9 [.int .i64 A.1.1, .int .i64 A.1.2, .int .i64 A.2.1, .int .i64 A.2.2.1, xd, xs, xp, xg] A w8.heap.size ⟨_, _, _, _, rfl, f1, f2, f3, f4⟩ rfl hone h8s hLlt rfl (Nat.le_trans h8s h9s) (by have := HPL.out.2; omega) (by decide) ?_; intro v7 w7 hL7 g7 hS7)))
      have hBx := below_and hB8 (Nat.le_refl _) b9
      have hB7 := hBx.trans (grown_below g7 hBx.size (fun q hq => by have := hL9.fr q hq; omega))
      go_roundw
      case rel => exact ⟨n + 1, by omega, by go_num, by rw [HST.out]; exact hL7, hB7, Nat.le_trans (Nat.le_trans h8s h9s) g7.size⟩
      case measure => simp [intOf]; omega
    have hPe : PL = ys := by rw [HPL.out.1]; exact List.take_of_length_le (by omega)
    subst hPe
    clear HPL
    obtain ⟨wo, hwo⟩ : ∃ u : World, u = wr := ⟨_, rfl⟩
    subst hwo
    have hOw : RL RRep 8 Any wo (.slice la PL.length lc) PL := (hL.rl mov_rep).mv mov_rep (Nat.le_refl _) Mv.any
    have hLy := hvs.mv mov_rep hB.size (Mv.below hB)
    have hszp : ∀ r ∈ PL, ∀ p ∈ r.2.2.2.2.2.1, szQ p.2.2.1 := fun r hr p hp => ((hz.2 r hr).2.2.1.2 p hp).1
    have HL1 := (show Hid (∀ u : World, Below wo.heap.size wo u → Calls Try.prog 6 #[.slice la PL.length lc] u fun e w' => e = .returned (.int .i64 (lowR PL)) ∧ Below u.heap.size u w') from fun u hu => lowC_any u _ PL (hOw.mv mov_rep hu.size (Mv.below hu)))
    have HL2 := (show Hid (∀ u : World, Below wo.heap.size wo u → Calls Try.prog 7 #[.slice aa PL.length ca] u fun e w' => e = .returned (.int .i64 (lowR PL)) ∧ Below u.heap.size u w') from fun u hu => lowD_any u _ PL (hLy.mv mov_rep hu.size (Mv.below hu)))
    have HH1 := (show Hid (∀ u : World, Below wo.heap.size wo u → Calls Try.prog 8 #[.slice la PL.length lc] u fun e w' => e = .returned (.int .i64 (higR PL)) ∧ Below u.heap.size u w') from fun u hu => highC_any u _ PL (hOw.mv mov_rep hu.size (Mv.below hu)))
    have HH2 := (show Hid (∀ u : World, Below wo.heap.size wo u → Calls Try.prog 9 #[.slice aa PL.length ca] u fun e w' => e = .returned (.int .i64 (higR PL)) ∧ Below u.heap.size u w') from fun u hu => highD_any u _ PL (hLy.mv mov_rep hu.size (Mv.below hu)))
    have HP1 := (show Hid (∀ u : World, Below wo.heap.size wo u → Calls Try.prog 11 #[.int .i64 k, .slice la PL.length lc] u fun e w' => ∃ o g, e = .returned (.agg #[.int .i64 (reqO (pkR k PL)).1, .int .i64 (reqO (pkR k PL)).2.1, o, g]) ∧ RReq Any w' [.int .i64 (reqO (pkR k PL)).1, .int .i64 (reqO (pkR k PL)).2.1, o, g] (reqO (pkR k PL)) ∧ Below u.heap.size u w') from fun u hu => (pickC_any u k _ PL (hOw.mv mov_rep hu.size (Mv.below hu)) hszp).mono fun e w' h => by
      obtain ⟨r, h1, ⟨o, g, rfl, h2, h3⟩, h4⟩ := h
      exact ⟨o, g, h1, ⟨o, g, rfl, h2.mv Mv.any, h3.mv Mv.any⟩, h4⟩)
    have HP2 := (show Hid (∀ u : World, Below wo.heap.size wo u → Calls Try.prog 12 #[.int .i64 k, .slice aa PL.length ca] u fun e w' => ∃ o g, e = .returned (.agg #[.int .i64 (reqO (pkR k PL)).1, .int .i64 (reqO (pkR k PL)).2.1, o, g]) ∧ RReq Any wo [.int .i64 (reqO (pkR k PL)).1, .int .i64 (reqO (pkR k PL)).2.1, o, g] (reqO (pkR k PL)) ∧ Below u.heap.size u w') from fun u hu => (pickD_in wo u hu k _ PL hLy hsum).mono fun e w' h => by
      obtain ⟨r, h1, ⟨o, g, rfl, h2, h3⟩, h4⟩ := h
      exact ⟨o, g, h1, ⟨o, g, rfl, h2, h3⟩, h4⟩)
    have HG := (show Hid (∀ u : World, Below wo.heap.size wo u → Calls Try.prog 13 #[.slice la PL.length lc] u fun e w' => ∃ v' zs, e = .returned v' ∧ zs.map (fun z : PZq => z.2.2) = picksR PL (cntR PL) ∧ LB RZq 36 4 u.heap.size w' v' zs ∧ Asc u.heap.size w'.heap.size zs ∧ Below u.heap.size u w') from fun u hu => picksZ_any u _ PL (hOw.mv mov_rep hu.size (Mv.below hu)) hszp hbd)
    have HW := (show Hid (∀ u : World, Below wo.heap.size wo u → Calls Try.prog 14 #[.slice aa PL.length ca] u fun e w' => ∃ v', e = .returned v' ∧ RL (RQk wo) 4 (From u.heap.size) w' v' (picksR PL (cntR PL)) ∧ Below u.heap.size u w') from fun u hu => picksD_in wo u hu _ PL hLy hsum hbd)
    have HOY := (show Hid (∀ u : World, Below wo.heap.size wo u → RL RRep 8 Any u (.slice la PL.length lc) PL ∧ RL RRep 8 Any u (.slice aa PL.length ca) PL) from fun u hu => ⟨hOw.mv mov_rep hu.size (Mv.below hu), hLy.mv mov_rep hu.size (Mv.below hu)⟩)
    clear hOw hLy hszp hbd hsum hz hvs hL hlen128
    generalize lowR PL = LR at *
    generalize higR PL = HR at *
    have hdd : ∀ x : Int, (x != x) = false := fun x => by simp
    have hdL := hdd LR
    have hdH := hdd HR
    clear hdd
    go_upto_region 11 with (first
      | (go_at_call 6; refine (HL1.out wo (Below.refl _ _)).mono ?_; rintro e w3 ⟨rfl, b3⟩)
      | (go_at_call 7; refine (HL2.out w3 b3).mono ?_; rintro e w4 ⟨rfl, b4⟩; have B4 := below_and b3 (Nat.le_refl _) b4)
      | (go_at_call 8; refine (HH1.out w4 B4).mono ?_; rintro e w5 ⟨rfl, b5⟩; have B5 := below_and B4 (Nat.le_refl _) b5)
      | (go_at_call 9; refine (HH2.out w5 B5).mono ?_; rintro e w6 ⟨rfl, b6⟩; have B6 := below_and B5 (Nat.le_refl _) b6)
      | (go_at_call 11; refine (HP1.out w6 B6).mono ?_; rintro e w7 ⟨o1, g1, rfl, q1, b7⟩; have B7 := below_and B6 (Nat.le_refl _) b7)
      | (go_at_call 12; refine (HP2.out w7 B7).mono ?_; rintro e w8 ⟨o2, g2, rfl, q2, b8⟩; have B8 := below_and B7 (Nat.le_refl _) b8; have hSR := sameReq_any w8 _ _ _ _ (mov_req _ _ _ _ _ _ q1 b8.size (Mv.below b8)) (mov_req _ _ _ _ _ _ q2 B8.size (Mv.below B8)); rw [decide_eq_true rfl] at hSR)
      | (go_at_call 10; refine hSR.mono ?_; rintro e w9 ⟨rfl, b9⟩))
    have B9 := below_and B8 (Nat.le_refl _) b9
    clear HL1 HL2 HH1 HH2 HP1 HP2 hSR q1 q2 b3 b4 b5 b6 b7 b8 b9 B4 B5 B6 B7 B8 hdL hdH
    go_upto_region 12 with (first
      | (go_at_call 13; refine (HG.out w9 B9).mono ?_; rintro e w10 ⟨v10, zs, rfl, hzs, hLB, hAs, b10⟩; have B10 := below_and B9 (Nat.le_refl _) b10; obtain ⟨ga, gc, rfl⟩ := hLB.fmC)
      | (go_at_call 14; refine (HW.out w10 B10).mono ?_; rintro e w11 ⟨v11, rfl, hWt, b11⟩; rw [← hzs] at hWt; obtain ⟨wa, wc, rfl, _⟩ := hWt.form))
    have hzl : (zs.map (fun z : PZq => z.2.2)).length = zs.length := List.length_map ..
    have B11 := below_and B10 (Nat.le_refl _) b11
    have hLB11 := hLB.below mov_zq b11
    have HAT := (show Hid (∀ i z, zs[i]? = some z → ∃ g o s, ga = some ⟨g, 0, none⟩ ∧ g < w11.heap.size ∧ w11.rangeAt g (i * 4) [.int .i64 z.2.2.1, .int .i64 z.2.2.2.1, o, s] ∧ OT (fun b => ((w9.heap.size ≤ b ∧ g ≠ b) ∧ z.1 ≤ b ∧ b < z.2.1)) w11 o z.2.2.2.2.1 ∧ RT (fun b => z.1 ≤ b ∧ b < z.2.1) w11 s z.2.2.2.2.2) from fun i z hz => by
      obtain ⟨g, cap, hve, _, _, hBg, hg, hat⟩ := hLB11.atR (by have := (List.getElem?_eq_some_iff.1 hz).1; omega)
      injection hve with e1 e2 e3
      subst e1 e3
      obtain ⟨r, hrl, hrng, o, s, rfl, t1, t2⟩ := hat i z hz
      exact ⟨g, o, s, rfl, hg, hrng, t1.mv (fun j hj _ => ⟨rfl, ⟨hj.1.1, fun e => hj.1.2 (by subst e; rfl)⟩, hj.2⟩), t2.mv (fun j hj _ => ⟨rfl, hj.2⟩)⟩)
    have HAW := (show Hid (∀ i z, zs[i]? = some z → ∃ bw off o s, wa = some ⟨bw, off, none⟩ ∧ w10.heap.size ≤ bw ∧ bw < w11.heap.size ∧ w11.rangeAt bw (off + i * 4) [.int .i64 z.2.2.1, .int .i64 z.2.2.2.1, o, s] ∧ RReq Any wo [.int .i64 z.2.2.1, .int .i64 z.2.2.2.1, o, s] z.2.2) from fun i z hz => by
      obtain ⟨bw, off, cap, hve, _, _, hBw, hbw, hat⟩ := hWt.at (by rw [hzl]; have := (List.getElem?_eq_some_iff.1 hz).1; omega)
      injection hve with e1 e2 e3
      subst e1 e3
      obtain ⟨r, hrl, hrng, o, s, rfl, t1, t2⟩ := hat i z.2.2 (by rw [List.getElem?_map, hz]; rfl)
      exact ⟨bw, off, o, s, rfl, hBw, hbw, hrng, o, s, rfl, t1, t2⟩)
    have hzm : (zs.length : Int) ≤ 9223372036854775807 := by
      by_cases h0 : 0 < zs.length
      · obtain ⟨_, _, _, h1, h2, _⟩ := hLB.atR h0
        unfold maxLen at h1
        omega
      · omega
    have hzl2 : (picksR PL (cntR PL)).length = zs.length := by rw [← hzs, List.length_map]
    rw [hzl2]
    have H9 := (show Hid (wo.heap.size ≤ w9.heap.size) from B9.size)
    have HAs := (show Hid (Asc w9.heap.size w10.heap.size zs) from hAs)
    clear hLB hLB11 hWt hzl hzl2 hzs HG HW B9 B10 b10 b11 hAs
    have hF0 := Fz.refl (Value.slice ga zs.length gc).ownBlock zs w11
    go_wp2_with fail
    go_loopw [61] (fun j wx => ∃ i : Nat, i ≤ zs.length ∧ j = .int .i64 i ∧ Fz (Value.slice ga zs.length gc).ownBlock zs i w11 wx ∧ Below wo.heap.size wo wx) (fun j _ => zs.length - (intOf j).toNat)
    case atStart => exact ⟨0, by omega, rfl, hF0, B11⟩
    case round =>
      clear hF0 B11
      obtain ⟨wx, hwx⟩ : ∃ u : World, u = wr := ⟨_, rfl⟩
      subst hwx
      obtain ⟨i, hi, rfl, hF, hBx⟩ := hrel
      by_cases hil : i < zs.length
      case pos =>
        obtain ⟨z, hz⟩ : ∃ z, zs[i]? = some z := ⟨_, List.getElem?_eq_getElem hil⟩
        obtain ⟨g, o, s, rfl, hg, hrng, hot, hrt⟩ := HAT.out i z hz
        obtain ⟨bw, off, o2, s2, rfl, hBw, hbw, hrw, hrq⟩ := HAW.out i z hz
        have hF : Fz (some g) zs i w11 wx := hF
        have hrx := rangeAt_block hrng (hF.blk g hg (.inl rfl))
        have hrwx := rangeAt_block hrw ((hF.high HAs.out) bw hBw hbw).1
        have hpk : Mv (fun b => z.1 ≤ b ∧ b < z.2.1) (fun b => z.1 ≤ b ∧ b < z.2.1) w11 wx := fun j hj hl => ⟨hF.blk j hl (.inr fun y hy hyk => by have := HAs.out.take hz y hy; omega), hj⟩
        have hotx : OT (fun b => ((w9.heap.size ≤ b ∧ g ≠ b) ∧ z.1 ≤ b ∧ b < z.2.1)) wx o z.2.2.2.2.1 := hot.mv (fun j hj hl => ⟨(hpk j hj.2 hl).1, hj⟩)
        have hSR : ∀ u, Below wx.heap.size wx u → Calls Try.prog 10 #[.agg #[.int .i64 z.2.2.1, .int .i64 z.2.2.2.1, o, s], .agg #[.int .i64 z.2.2.1, .int .i64 z.2.2.2.1, o2, s2]] u fun e w' => e = .returned (.bool true) ∧ Below u.heap.size u w' := fun u hu => by
          have h := sameReq_any u _ _ z.2.2 z.2.2 (mov_req _ _ _ _ _ _ (⟨_, _, rfl, hotx.rt.mv Mv.any, (hrt.mv hpk).mv Mv.any⟩ : RReq Any wx [.int .i64 z.2.2.1, .int .i64 z.2.2.2.1, o, s] z.2.2) hu.size (Mv.below hu)) (mov_req _ _ _ _ _ _ hrq (below_and hBx (Nat.le_refl _) hu).size (Mv.below (below_and hBx (Nat.le_refl _) hu)))
          rw [decide_eq_true rfl] at h
          exact h
        have HSR := (show Hid (∀ u, Below wx.heap.size wx u → _) from hSR)
        obtain ⟨ao, co, rfl, hco⟩ := hotx.rt.form
        have hlo : (z.2.2.2.2.1.length : Int) ≤ 9223372036854775807 := hotx.rt.lenB
        have HC := (show Hid (∀ u, Fz (some g) zs (i + 1) w11 u → u.cell? ⟨g, i * 4 + 2, none⟩ = some (.slice ao z.2.2.2.2.1.length co)) from fun u hu => by
          have := rangeAt_block hrng (hu.blk g hg (.inl rfl)) 2 _ rfl
          exact this)
        have HO := (show Hid (OT (fun b => ((w9.heap.size ≤ b ∧ g ≠ b) ∧ z.1 ≤ b ∧ b < z.2.1)) wx (.slice ao z.2.2.2.2.1.length co) z.2.2.2.2.1) from hotx)
        have HF := (show Hid (Fz (some g) zs (i + 1) w11 wx) from hF.up (by omega))
        have HZ := (show Hid (zs[i]? = some z) from hz)
        have HRG := (show Hid (∀ u, Below wx.heap.size wx u → u.rangeAt g (i * 4) [.int .i64 z.2.2.1, .int .i64 z.2.2.2.1, .slice ao z.2.2.2.2.1.length co, s] ∧ u.rangeAt bw (off + i * 4) [.int .i64 z.2.2.1, .int .i64 z.2.2.2.1, o2, s2]) from fun u hu => ⟨rangeAt_block hrx (hu.block g (Nat.lt_of_lt_of_le hg hF.size)), rangeAt_block hrwx (hu.block bw (Nat.lt_of_lt_of_le hbw hF.size))⟩)
        have B0 : Below wx.heap.size wx wx.drew := ⟨rfl, rfl, rfl, Nat.le_refl _, fun _ _ => rfl⟩
        have S0 := HRG.out _ B0
        clear hot hrt hrq hrw hrng hpk hotx hF hz hSR hg hBw hbw hrx hrwx
        go_upto_region 17 with fail
        try go_simp
        refine wp_region_held_drew (S := fun u => u.rangeAt g (i * 4) [.int .i64 z.2.2.1, .int .i64 z.2.2.2.1, .slice ao z.2.2.2.2.1.length co, s] ∧ u.rangeAt bw (off + i * 4) [.int .i64 z.2.2.1, .int .i64 z.2.2.2.1, o2, s2]) (by kernel_rfl) S0 (fun hHeld => ?_)
        clear hHeld
        refine wpAnyH_take (i := 0) (v := .slice (some ⟨g, 0, none⟩) zs.length gc) rfl (by kernel_rfl) (by kernel_rfl) (by kernel_rfl) (fun _ _ _ h => h) (Or.inl ⟨by kernel_rfl, fun u hSu => by go_simp⟩) S0 ?_
        simp only [Act.put, List.setIfInBounds_toArray, List.set_cons_zero, List.set_cons_succ]
        refine wpAnyH_take (i := 1) (v := .int .i64 i) rfl (by kernel_rfl) (by kernel_rfl) (by kernel_rfl) (fun _ _ _ h => h) (Or.inl ⟨by kernel_rfl, fun u hSu => by go_simp⟩) S0 ?_
        simp only [Act.put, List.setIfInBounds_toArray, List.set_cons_zero, List.set_cons_succ]
        refine wpAnyH_take (i := 2) (v := .pointer (some ⟨g, i * 4, none⟩)) rfl (by kernel_rfl) (by kernel_rfl) (by kernel_rfl) (fun _ _ _ h => h) (Or.inl ⟨by kernel_rfl, fun u hSu => by go_simp⟩) S0 ?_
        simp only [Act.put, List.setIfInBounds_toArray, List.set_cons_zero, List.set_cons_succ]
        refine wpAnyH_take (i := 3) (v := .agg #[.int .i64 z.2.2.1, .int .i64 z.2.2.2.1, .slice ao z.2.2.2.2.1.length co, s]) rfl (by kernel_rfl) (by kernel_rfl) (by kernel_rfl) (fun _ _ _ h => h) (yieldsIf_load_mid (by kernel_rfl) _ _ rfl g (i * 4) (by go_simp) [.int .i64 z.2.2.1, .int .i64 z.2.2.2.1, .slice ao z.2.2.2.2.1.length co, s] _ (fun u hu => hu.1) Try.underlying36 rfl (by kernel_rfl)) S0 ?_
        simp only [Act.put, List.setIfInBounds_toArray, List.set_cons_zero, List.set_cons_succ]
        refine wpAnyH_take (i := 4) (v := .slice (some ⟨bw, off, none⟩) zs.length wc) rfl (by kernel_rfl) (by kernel_rfl) (by kernel_rfl) (fun _ _ _ h => h) (Or.inl ⟨by kernel_rfl, fun u hSu => by go_simp⟩) S0 ?_
        simp only [Act.put, List.setIfInBounds_toArray, List.set_cons_zero, List.set_cons_succ]
        refine wpAnyH_take (i := 5) (v := .int .i64 i) rfl (by kernel_rfl) (by kernel_rfl) (by kernel_rfl) (fun _ _ _ h => h) (Or.inl ⟨by kernel_rfl, fun u hSu => by go_simp⟩) S0 ?_
        simp only [Act.put, List.setIfInBounds_toArray, List.set_cons_zero, List.set_cons_succ]
        refine wpAnyH_take (i := 6) (v := .pointer (some ⟨bw, off + i * 4, none⟩)) rfl (by kernel_rfl) (by kernel_rfl) (by kernel_rfl) (fun _ _ _ h => h) (Or.inl ⟨by kernel_rfl, fun u hSu => by go_simp⟩) S0 ?_
        simp only [Act.put, List.setIfInBounds_toArray, List.set_cons_zero, List.set_cons_succ]
        refine wpAnyH_take (i := 7) (v := .agg #[.int .i64 z.2.2.1, .int .i64 z.2.2.2.1, o2, s2]) rfl (by kernel_rfl) (by kernel_rfl) (by kernel_rfl) (fun _ _ _ h => h) (yieldsIf_load_mid (by kernel_rfl) _ _ rfl bw (off + i * 4) (by go_simp) [.int .i64 z.2.2.1, .int .i64 z.2.2.2.1, o2, s2] _ (fun u hu => hu.2) Try.underlying36 rfl (by kernel_rfl)) S0 ?_
        simp only [Act.put, List.setIfInBounds_toArray, List.set_cons_zero, List.set_cons_succ]
        refine wpAnyH_ready (rs := [8]) (by kernel_rfl) (by simp) ?_
        refine AllReadyH.cons (o := _) rfl (fun K hK => ?_) AllReadyH.nil
        go_simp
        refine (HSR.out _ B0).mono ?_
        rintro e w12 ⟨rfl, b12⟩
        have bx := below_and B0 (Nat.le_refl _) b12
        have S1 := HRG.out _ bx
        try go_simp
        refine hK.out _ _ S1 (fun hHeld => ?_)
        clear hK K hHeld
        refine wpAnyH_take (i := 9) (v := .bool false) rfl (by kernel_rfl) (by kernel_rfl) (by kernel_rfl) (fun _ _ _ h => h) (Or.inl ⟨by kernel_rfl, fun u hSu => by go_simp⟩) S1 ?_
        simp only [Act.put, List.setIfInBounds_toArray, List.set_cons_zero, List.set_cons_succ]
        refine wpAnyH_done (by kernel_rfl) ?_ _
        have hF12 : Fz (some g) zs (i + 1) w11 w12 := HF.out.below bx
        have hO12 : OT (fun b => ((w9.heap.size ≤ b ∧ g ≠ b) ∧ z.1 ≤ b ∧ b < z.2.1)) w12 (.slice ao z.2.2.2.2.1.length co) z.2.2.2.2.1 := HO.out.mv (Mv.belowG bx)
        have hB12 := below_and hBx (Nat.le_refl _) bx
        have c1 := HC.out _ hF12
        clear S0 S1 HRG HSR HO HF B0 bx b12 hBx
        obtain ⟨n, hn⟩ : ∃ n, n = z.2.2.2.2.1.length := ⟨_, rfl⟩
        have hO12 : ∃ l', l'.length = n ∧ OT (fun b => ((w9.heap.size ≤ b ∧ g ≠ b) ∧ z.1 ≤ b ∧ b < z.2.1)) w12 (.slice ao n co) l' := ⟨_, hn.symm, hn ▸ hO12⟩
        rw [← hn] at HC hlo c1
        clear hn
        go_wp2_with fail
        go_loopw [80] (fun j wy => ∃ q : Nat, q ≤ n ∧ j = .int .i64 q ∧ Fz (some g) zs (i + 1) w11 wy ∧ (∃ l', l'.length = n ∧ OT (fun b => ((w9.heap.size ≤ b ∧ g ≠ b) ∧ z.1 ≤ b ∧ b < z.2.1)) wy (.slice ao n co) l') ∧ Below wo.heap.size wo wy) (fun j _ => n - (intOf j).toNat)
        case atStart => exact ⟨0, Nat.zero_le _, rfl, hF12, hO12, hB12⟩
        case round =>
          clear c1 hF12 hO12 hB12
          obtain ⟨wy, hwy⟩ : ∃ u : World, u = wr := ⟨_, rfl⟩
          subst hwy
          obtain ⟨q, hq, rfl, hF, ⟨l', hl', hot⟩, hBy⟩ := hrel
          by_cases hql : q < n
          · have c1 := HC.out _ hF
            obtain ⟨kk, kc, kur, y, e, k1, k2, kG, k4, k5, k6, y0, y1⟩ := hot.atQ (j := q) (by omega)
            rw [hl'] at e
            injection e with e1 e2 e3
            subst e1 e3
            have c2 := k4.cell k6
            have hx := xor_rngQ ⟨y0, y1⟩
            have HH := (show Hid (_ ∧ _ ∧ _ ∧ _) from And.intro hF (And.intro hot (And.intro hBy kG)))
            clear hF hot hBy kG k1 k2 k6
            go_wp2_with (refine wl_set rfl _ _ _ rfl kk q _ rfl rfl _ _ k4 k5 (by kernel_rfl) rfl ?_; intro w15 hr15 hg15)
            obtain ⟨hF, hot, hBy, kG⟩ := HH.out
            obtain ⟨l2, hl2, hot2⟩ := hot.byteQ (k := kk) rfl k4 hr15.out hx
            go_roundw
            case rel => exact ⟨q + 1, by omega, by go_num, hF.set HZ.out hg15 kG.2 (fun e => kG.1.2 (Option.some.inj e)), ⟨l2, by omega, hot2⟩, hBy.trans (grown_below hg15 hBy.size (fun q hq => by cases hq; exact Nat.le_trans H9.out kG.1.1))⟩
            case measure => simp [intOf]; omega
          · have hjd : decide ((q : Int) < n) = false := by simp; omega
            go_wp2_with fail
            go_roundw
            case rel => exact ⟨i + 1, by omega, by go_num, hF, hBy⟩
            case measure => simp [intOf]; omega
      have hF : True := trivial
      clear HAT HAW HAs hF
      go_wp2_with fail
      go_loopw [97] (fun j wy => ∃ n : Nat, n ≤ PL.length ∧ j = .int .i64 n ∧ Below wo.heap.size wo wy) (fun j _ => PL.length - (intOf j).toNat)
      case atStart => exact ⟨0, Nat.zero_le _, rfl, hBx⟩
      case round =>
        clear hBx
        obtain ⟨wy, hwy⟩ : ∃ u : World, u = wr := ⟨_, rfl⟩
        subst hwy
        obtain ⟨n, hn, rfl, hBy⟩ := hrel
        by_cases hnl : n < PL.length
        case neg =>
          have hjd : decide ((n : Int) < PL.length) = false := by simp; omega
          go_wp2_with fail
          go_ret
          exact ⟨rfl, below_and hB (Nat.le_refl _) hBy⟩
        obtain ⟨A, hA⟩ : ∃ A, PL[n]? = some A := ⟨_, List.getElem?_eq_getElem hnl⟩
        obtain ⟨hO, hY⟩ := HOY.out wy hBy
        obtain ⟨bv, off, cap, hve, _, _, _, hbv, hat⟩ := hO.at (by omega)
        obtain ⟨r1, _, hrng, rd, rs, rp, rg, rfl, t1, t2, t3, t4⟩ := hat n _ hA
        injection hve with hv1 hv2 hv3
        subst hv1 hv3
        clear hv2 hat
        obtain ⟨bv2, off2, cap2, hve, _, _, _, hbv2, hat⟩ := hY.at (by omega)
        obtain ⟨r2, _, hrng2, rd2, rs2, rp2, rg2, rfl, u1, u2, u3, u4⟩ := hat n _ hA
        injection hve with hv1 hv2 hv3
        subst hv1 hv3
        clear hv2 hat
        have HSR := (show Hid (∀ u, Below wy.heap.size wy u → Calls Try.prog 15 #[.agg #[.int .i64 A.1.1, .int .i64 A.1.2, .int .i64 A.2.1, .int .i64 A.2.2.1, rd, rs, rp, rg], .agg #[.int .i64 A.1.1, .int .i64 A.1.2, .int .i64 A.2.1, .int .i64 A.2.2.1, rd2, rs2, rp2, rg2]] u fun e w' => e = .returned (.bool true) ∧ Below u.heap.size u w') from fun u hu => sameReport_eq u _ _ A (mov_rep _ _ _ _ _ _ (⟨_, _, _, _, rfl, t1, t2, t3, t4⟩ : RRep Any wy [.int .i64 A.1.1, .int .i64 A.1.2, .int .i64 A.2.1, .int .i64 A.2.2.1, rd, rs, rp, rg] A) hu.size (Mv.below hu)) (mov_rep _ _ _ _ _ _ (⟨_, _, _, _, rfl, u1, u2, u3, u4⟩ : RRep Any wy [.int .i64 A.1.1, .int .i64 A.1.2, .int .i64 A.2.1, .int .i64 A.2.2.1, rd2, rs2, rp2, rg2] A) hu.size (Mv.below hu)))
        have HRG := (show Hid (∀ u, Below wy.heap.size wy u → u.rangeAt bv (off + n * 8) [.int .i64 A.1.1, .int .i64 A.1.2, .int .i64 A.2.1, .int .i64 A.2.2.1, rd, rs, rp, rg] ∧ u.rangeAt bv2 (off2 + n * 8) [.int .i64 A.1.1, .int .i64 A.1.2, .int .i64 A.2.1, .int .i64 A.2.2.1, rd2, rs2, rp2, rg2]) from fun u hu => ⟨rangeAt_block hrng (hu.block bv hbv), rangeAt_block hrng2 (hu.block bv2 hbv2)⟩)
        have B0 : Below wy.heap.size wy wy.drew := ⟨rfl, rfl, rfl, Nat.le_refl _, fun _ _ => rfl⟩
        have S0 := HRG.out _ B0
        clear t1 t2 t3 t4 u1 u2 u3 u4 hrng hrng2 hA hO hY hbv hbv2
        go_upto_region 28 with fail
        try go_simp
        refine wp_region_held_drew (S := fun u => u.rangeAt bv (off + n * 8) [.int .i64 A.1.1, .int .i64 A.1.2, .int .i64 A.2.1, .int .i64 A.2.2.1, rd, rs, rp, rg] ∧ u.rangeAt bv2 (off2 + n * 8) [.int .i64 A.1.1, .int .i64 A.1.2, .int .i64 A.2.1, .int .i64 A.2.2.1, rd2, rs2, rp2, rg2]) (by kernel_rfl) S0 (fun hHeld => ?_)
        clear hHeld
        refine wpAnyH_take (i := 0) (v := .slice (some ⟨bv, off, none⟩) PL.length lc) rfl (by kernel_rfl) (by kernel_rfl) (by kernel_rfl) (fun _ _ _ h => h) (Or.inl ⟨by kernel_rfl, fun u hSu => by go_simp⟩) S0 ?_
        simp only [Act.put, List.setIfInBounds_toArray, List.set_cons_zero, List.set_cons_succ]
        refine wpAnyH_take (i := 1) (v := .int .i64 n) rfl (by kernel_rfl) (by kernel_rfl) (by kernel_rfl) (fun _ _ _ h => h) (Or.inl ⟨by kernel_rfl, fun u hSu => by go_simp⟩) S0 ?_
        simp only [Act.put, List.setIfInBounds_toArray, List.set_cons_zero, List.set_cons_succ]
        refine wpAnyH_take (i := 2) (v := .pointer (some ⟨bv, off + n * 8, none⟩)) rfl (by kernel_rfl) (by kernel_rfl) (by kernel_rfl) (fun _ _ _ h => h) (Or.inl ⟨by kernel_rfl, fun u hSu => by go_simp⟩) S0 ?_
        simp only [Act.put, List.setIfInBounds_toArray, List.set_cons_zero, List.set_cons_succ]
        refine wpAnyH_take (i := 3) (v := .agg #[.int .i64 A.1.1, .int .i64 A.1.2, .int .i64 A.2.1, .int .i64 A.2.2.1, rd, rs, rp, rg]) rfl (by kernel_rfl) (by kernel_rfl) (by kernel_rfl) (fun _ _ _ h => h) (yieldsIf_load_mid (by kernel_rfl) _ _ rfl bv (off + n * 8) (by go_simp) [.int .i64 A.1.1, .int .i64 A.1.2, .int .i64 A.2.1, .int .i64 A.2.2.1, rd, rs, rp, rg] _ (fun u hu => hu.1) Try.underlying30 rfl (by kernel_rfl)) S0 ?_
        simp only [Act.put, List.setIfInBounds_toArray, List.set_cons_zero, List.set_cons_succ]
        refine wpAnyH_take (i := 4) (v := .slice (some ⟨bv2, off2, none⟩) PL.length ca) rfl (by kernel_rfl) (by kernel_rfl) (by kernel_rfl) (fun _ _ _ h => h) (Or.inl ⟨by kernel_rfl, fun u hSu => by go_simp⟩) S0 ?_
        simp only [Act.put, List.setIfInBounds_toArray, List.set_cons_zero, List.set_cons_succ]
        refine wpAnyH_take (i := 5) (v := .int .i64 n) rfl (by kernel_rfl) (by kernel_rfl) (by kernel_rfl) (fun _ _ _ h => h) (Or.inl ⟨by kernel_rfl, fun u hSu => by go_simp⟩) S0 ?_
        simp only [Act.put, List.setIfInBounds_toArray, List.set_cons_zero, List.set_cons_succ]
        refine wpAnyH_take (i := 6) (v := .pointer (some ⟨bv2, off2 + n * 8, none⟩)) rfl (by kernel_rfl) (by kernel_rfl) (by kernel_rfl) (fun _ _ _ h => h) (Or.inl ⟨by kernel_rfl, fun u hSu => by go_simp⟩) S0 ?_
        simp only [Act.put, List.setIfInBounds_toArray, List.set_cons_zero, List.set_cons_succ]
        refine wpAnyH_take (i := 7) (v := .agg #[.int .i64 A.1.1, .int .i64 A.1.2, .int .i64 A.2.1, .int .i64 A.2.2.1, rd2, rs2, rp2, rg2]) rfl (by kernel_rfl) (by kernel_rfl) (by kernel_rfl) (fun _ _ _ h => h) (yieldsIf_load_mid (by kernel_rfl) _ _ rfl bv2 (off2 + n * 8) (by go_simp) [.int .i64 A.1.1, .int .i64 A.1.2, .int .i64 A.2.1, .int .i64 A.2.2.1, rd2, rs2, rp2, rg2] _ (fun u hu => hu.2) Try.underlying30 rfl (by kernel_rfl)) S0 ?_
        simp only [Act.put, List.setIfInBounds_toArray, List.set_cons_zero, List.set_cons_succ]
        refine wpAnyH_ready (rs := [8]) (by kernel_rfl) (by simp) ?_
        refine AllReadyH.cons (o := _) rfl (fun K hK => ?_) AllReadyH.nil
        go_simp
        refine (HSR.out _ B0).mono ?_
        rintro e w12 ⟨rfl, b12⟩
        have bx := below_and B0 (Nat.le_refl _) b12
        have S1 := HRG.out _ bx
        try go_simp
        refine hK.out _ _ S1 (fun hHeld => ?_)
        clear hK K hHeld
        refine wpAnyH_take (i := 9) (v := .bool false) rfl (by kernel_rfl) (by kernel_rfl) (by kernel_rfl) (fun _ _ _ h => h) (Or.inl ⟨by kernel_rfl, fun u hSu => by go_simp⟩) S1 ?_
        simp only [Act.put, List.setIfInBounds_toArray, List.set_cons_zero, List.set_cons_succ]
        refine wpAnyH_done (by kernel_rfl) ?_ _
        have hB12 := below_and hBy (Nat.le_refl _) bx
        clear S0 S1 HRG HSR B0 bx b12 hBy
        go_wp2_with fail
        go_roundw
        case rel => exact ⟨n + 1, by omega, by go_num, hB12⟩
        case measure => simp [intOf]; omega
end Go.Proofs.Ytgbfmccecnfooaa
