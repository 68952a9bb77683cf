/- catenarylaw19.StableCerts: its walk. -/
import Derived.Test.YtgpkngiakhdmhaaDoorSBBW
import Derived.Test.YtgpkngiakhdmhaaDoorSBBL
import Derived.Test.YtgpkngiakhdmhaaDoorSBBX
import Derived.Test.YtgpkngiakhdmhaaDoorSBBC
import Derived.Deep.MidRow
import Derived.Deep.RegionHeld3
import Derived.Deep.CutRange
import Derived.Deep.Cut
set_option linter.unusedSimpArgs false
set_option linter.unusedVariables false
namespace Go.Proofs.YtgpkngiakhdmhaaDoor
section
open Go.RowKit Oct Stb MI Bal Sha
end
section
open Go.RowKit Oct Stb MI Bal Sha
/-- What stands between two acts. -/
def Mid (W : World) (b m : Nat) (n cut : Int) (w : World) (tl : PTl) : Prop := Tly w b m n cut tl ∧ Tab w ∧ Below W.heap.size W w ∧ (∀ k, Own1 m tl k → W.heap.size ≤ k) ∧ W.heap.size ≤ b
theorem Mid.below {W : World} {b m : Nat} {n cut : Int} {w w' : World} {tl : PTl} (h : Mid W b m n cut w tl) (hb : Below w.heap.size w w') : Mid W b m n cut w' tl :=
  ⟨h.1.below hb, h.2.1.below hb, below_and h.2.2.1 (Nat.le_refl _) hb, h.2.2.2⟩
theorem put_own {tl : PTl} {s i : Int} {nb m : Nat} {c : PCh} {k : Nat} (h : Own1 m (putT tl s nb i c) k) : Own1 m tl k ∨ k = nb := by
  rw [← app_mid tl s nb (i, c)] at h
  have := (app_ent (midT tl s nb) s (i, c)).2.1
  unfold Own1 at h
  rw [this] at h
  exact mid_own h
theorem Mid.add {W : World} {b m : Nat} {n cut : Int} {w : World} {tl : PTl} (h : Mid W b m n cut w tl) (s : Int) (dv : Value) (d : List Int) (hd : Rd w dv d) (i : Int) (gv : Value) (g : List Int) (hg : Rd w gv g) :
    Calls Tryd.prog 9 #[.pointer (some ⟨b, 0, none⟩), .int .i64 s, dv, .agg #[.int .i64 i, gv]] w fun e w' => ∃ nb, e = .returned (.bool (addB n cut tl s d (i, g))) ∧ Hid (Mid W b m n cut w' (addT n cut tl nb s d (i, g)) ∧ Gs (Own1 m tl) w w' ∧ (∀ k, Own1 m tl k → ¬ NMap w k)) := by
  obtain ⟨h1, h2, h3, h4, h5⟩ := h
  have hsz := h3.size
  refine (addT_any w h1 s dv d hd i gv g hg h2).mono ?_
  rintro e w' ⟨nb, hn, he, h6, hgs⟩
  refine ⟨nb, he, ⟨h6, gs_tab h1 hgs h2, ?_, fun k hk => ?_, h5⟩, hgs, fun k hk => (h1.own hk).1⟩
  · exact h3.trans (hgs.below hsz h4)
  · unfold addT at hk
    split at hk
    · rcases put_own hk with hk | hk
      · exact h4 k hk
      · omega
    · exact h4 k hk
theorem row_gs {w w' : World} {S : Nat → Prop} {c : Nat} {t : TypeId} {x : Value} {xs : List Value} (h : Row w c t (x :: xs)) (hg : Gs S w w') (hs : ∀ k, S k → ¬ NMap w k) : Row w' c t (x :: xs) :=
  (hg.block c h.lt (fun hS => hs c hS (cell_nmap (a := ⟨c, 0, none⟩) (h.cell (j := 0) rfl)))).trans h
theorem rl_oneT {G : Nat → Prop} {w : World} {i : Int} {v : Value} {g : List Int} (h : RT G w v g) (hG : G w.heap.size) : RL RVote 2 G (w.alloc (.cells #[.int .i64 i, v] 28)) (.slice (some ⟨w.heap.size, 0, none⟩) 1 1) [(i, g)] := by
  refine ⟨[[.int .i64 i, v]], ⟨by simp, .inr ⟨w.heap.size, 0, 1, rfl, by simp, by unfold maxLen; decide, by simp, hG, by simp, ?_⟩⟩, ⟨⟨v, rfl, h.mv (Mv.belowG (below_alloc _ _))⟩, trivial⟩⟩
  intro q r hq
  have hR := Row.new w 28 [.int .i64 i, v]
  cases q with
  | zero =>
    simp at hq
    subst hq
    intro j u hj
    simpa using hR.cell hj
  | succ q => simp at hq
theorem copy1_any (w : World) (v : Value) (i : Int) (g : List Int) (h : RL RVote 2 Any w v [(i, g)]) (hz : szT g) :
    Calls Tryd.prog 10 #[v] w fun e w' => ∃ x y z ga gc, e = .returned (.slice (some ⟨x, y, none⟩) 1 z) ∧ Hid (w'.rangeAt x y [.int .i64 i, .slice ga g.length gc]) ∧ Hid (RT Any w' (.slice ga g.length gc) g) ∧ Hid (Below w.heap.size w w') ∧ Hid (x < w'.heap.size) := by
  refine (copyVotes_any w v [(i, g)] h ⟨by simp, fun y hy => by simp at hy; subst hy; exact hz⟩).mono ?_
  rintro e w' ⟨v', rfl, h2, h3⟩
  obtain ⟨x, y, z, rfl, _, _, hG, hlt, hat⟩ := h2.at (by simp)
  obtain ⟨r, _, hr, sg, rfl, hs⟩ := hat 0 _ rfl
  obtain ⟨ga, gc, rfl, _⟩ := hs.form
  refine ⟨x, y, z, ga, gc, rfl, ?_, hs.mv Mv.any, h3, hlt⟩
  have hr : w'.rangeAt x y [.int .i64 i, .slice ga g.length gc] := by simpa using hr
  exact hr
theorem bs0 (u : World) : (Instr.buildSlice 26 0 #[]).run Tryd.prog u = .ok (.slice (some ⟨u.heap.size, 0, none⟩) 0 0) (u.alloc (.cells #[] 5)) := by kernel_rfl
theorem bs1 (u : World) (i : Int) (ga : Option Addr) (q gc : Nat) : (Instr.buildSlice 32 1 #[(0, .agg #[.int .i64 i, .slice ga q gc])]).run Tryd.prog u = .ok (.slice (some ⟨u.heap.size, 0, none⟩) 1 1) (u.alloc (.cells #[.int .i64 i, .slice ga q gc] 28)) := by kernel_rfl
/-! ### certificates -/
theorem certW_of {R : PVote → Bool} {n : Int} : ∀ {l : List PVote} {p : Int}, l.Pairwise (fun x y => x.1 < y.1) → (∀ v ∈ l, p < v.1 ∧ v.1 < n ∧ R v = true) → certW R n p l = true
  | [], _, _, _ => rfl
  | v :: vs, p, hp, h => by
    obtain ⟨h1, h2, h3⟩ := h v List.mem_cons_self
    obtain ⟨q1, q2⟩ := List.pairwise_cons.1 hp
    unfold certW
    rw [decide_eq_true h1, decide_eq_true h2, h3, certW_of q2 (fun u hu => ⟨q1 u hu, (h u (List.mem_cons_of_mem _ hu)).2⟩)]
    rfl
theorem vts_keys (ch : PIn) (d : List Int) (h : (keysI ch).Nodup) : ((vts ch d).map ks).Nodup := by
  unfold vts keysI at *
  rw [List.map_map]
  exact (List.filter_sublist.map _).nodup h
theorem lt_of_srt {l : List PVote} (h : Srt ks l) (hn : (l.map ks).Nodup) : l.Pairwise (fun x y => x.1 < y.1) := by
  have h2 : l.Pairwise (fun x y => ks x ≠ ks y) := List.pairwise_map.1 hn
  exact (List.Pairwise.and h h2).imp (fun {a b} hab => by
    have h1 : a.1 ≤ b.1 := hab.1
    have h3 : a.1 ≠ b.1 := hab.2
    omega)
/-- What is told as a certificate is one. -/
theorem crt_cert {n cut s : Int} {k : Nat} {ch : PIn} (h : OkE n cut (s, k, ch)) (hn : rgt n = true) {d : List Int} {ls : List PVote} (hc : crtR n ch d ls) (hd : d ≠ []) : certL (rightV 10 0 0 s d) n ls = true := by
  rcases hc with ⟨_, h1, _⟩ | ⟨h1, zs, h2, h3, rfl⟩
  · exact absurd h1 hd
  · have hq : quo n ≤ ((vts ch d).length : Int) := by
      unfold crtD at h1
      cases hf : ch.find? (fun z => decide (quo n ≤ ((vts ch z.2.1).length : Int))) with
      | none => rw [hf] at h1; cases h1
      | some z =>
        rw [hf] at h1
        injection h1 with h1
        have h5 := List.find?_some hf
        simp only [decide_eq_true_eq] at h5
        have h1 : z.2.1 = d := h1
        rwa [h1] at h5
    have h4 := h3.length_eq
    have h6 := quo_yes hn
    have h7 := fau_ge hn
    have hnd : (zs.map ks).Nodup := (h3.map ks).nodup_iff.2 (vts_keys ch d h.dup)
    unfold certL
    rw [hn, decide_eq_true (by rw [List.length_take]; omega), Bool.true_and, Bool.true_and]
    refine certW_of ((lt_of_srt h2 hnd).sublist (List.take_sublist _ _)) (fun v hv => ?_)
    have hv2 := h3.mem_iff.1 (List.mem_of_mem_take hv)
    have := vts_get h hv2
    exact ⟨by omega, this.2.1, this.2.2.2⟩
/-- The vote that made the quorum was for the digest that is told. -/
theorem crt_got {n cut s : Int} {tl : PTl} {nb : Nat} {d : List Int} {v : PVote} (h : OkT n cut (addT n cut tl nb s d v)) (hb : addB n cut tl s d v = true) {d' : List Int} {ls : List PVote} (hc : crtR n (atT (addT n cut tl nb s d v) s) d' ls) : d' = d := by
  unfold addB at hb
  rw [Bool.and_eq_true, decide_eq_true_eq] at hb
  obtain ⟨h1, h2⟩ := hb
  have hT : addT n cut tl nb s d v = putT tl s nb v.1 (d, v.2) := by unfold addT; rw [h1]; rfl
  rw [hT] at h hc
  have ha : atT (putT tl s nb v.1 (d, v.2)) s = atT tl s ++ [(v.1, (d, v.2))] := at_put
  obtain ⟨k, hm, hE, hn⟩ := h.at (s := s) (by rw [ha]; simp)
  rw [ha] at hE hc
  have hs : crtD n (atT tl s ++ [(v.1, (d, v.2))]) = some d := crt_some (y := (s, k, atT tl s ++ [(v.1, (d, v.2))])) hE hn (z := (v.1, (d, v.2))) (by simp) (by
    show quo n ≤ ((vts (atT tl s ++ [(v.1, (d, v.2))]) d).length : Int)
    omega)
  rcases hc with ⟨h3, _⟩ | ⟨h3, _⟩
  · rw [hs] at h3; cases h3
  · rw [hs] at h3; exact (Option.some.inj h3).symm
/-- A struct is loaded out of a row's midst, at a step of a region that draws its order. -/
theorem step_loadM {P : Program} {w : World} {ops : Array Oper} {o : Oper} {a : Act} {K : Act → World → Prop} {Q : Exit → Act → World → Prop} {E : Prop} (hgd : Region.wanted o (yielded ops a.tmps) = true) (ty : TypeId) (x : Operand) (ho : o.op = .load ty x)
    (b off : Nat) (hx : a.eval x = .pointer (some ⟨b, off, none⟩)) (cs : List Value) (d : TypeDesc) (hr : w.rangeAt b off cs) (hu : P.underlying ty = some d) (hd : d.isRow = true)
    (hi : (P.info? ty).map (·.size) = some cs.length) (k : K (a.put o.dst (.agg cs.toArray)) w) : if Region.wanted o (yielded ops a.tmps) = true then Oper.wp P o a w K Q else E := by
  rw [if_pos hgd]
  unfold Oper.wp execOp
  simp only [ho, hx, Instr.loadAt, Instr.sureAddr, Sem.run_bind, Sem.run_pure, Result.andThen_ok, run_loadVar_mid w b off ty cs d hr hu hd hi]
  exact k
theorem own_lt0 {w : World} {b : Nat} (h : Own w 5 (.slice (some ⟨b, 0, none⟩) 0 0) (bc [])) : b < w.heap.size := (World.ownsRow.lt h b rfl).2
theorem hid_dig {d : List Int} (h : szT d) : ([] : List Int).length + d.length ≤ 140737488355328 := by
  unfold szT at h
  simp only [List.length_nil]
  omega
theorem crt_some_mem {n : Int} {ch : PIn} {d : List Int} (h : crtD n ch = some d) : ∃ z ∈ ch, z.2.1 = d := by
  unfold crtD at h
  cases hf : ch.find? (fun z => decide (quo n ≤ ((vts ch z.2.1).length : Int))) with
  | none => rw [hf] at h; cases h
  | some z =>
    rw [hf] at h
    injection h with h
    exact ⟨z, List.mem_of_find?_eq_some hf, h⟩
theorem crt_len {n cut s : Int} {tl : PTl} (h : OkT n cut tl) {d : List Int} {ls : List PVote} (hc : crtR n (atT tl s) d ls) : d.length ≤ 32 := by
  rcases hc with ⟨_, rfl, _⟩ | ⟨h1, _⟩
  · decide
  · obtain ⟨z, hz, rfl⟩ := crt_some_mem h1
    obtain ⟨k, _, hE, _⟩ := h.at (s := s) (fun e => by rw [e] at hz; cases hz)
    exact Nat.le_of_eq (hE.each z hz).2.2.1
theorem crt_certT {n cut s : Int} {tl : PTl} (h : OkT n cut tl) {d : List Int} {ls : List PVote} (hc : crtR n (atT tl s) d ls) (hd : d ≠ []) : certL (rightV 10 0 0 s d) n ls = true := by
  have hne : atT tl s ≠ [] := fun e => by
    rcases hc with ⟨_, h1, _⟩ | ⟨h1, _⟩
    · exact hd h1
    · obtain ⟨z, hz, _⟩ := crt_some_mem h1
      rw [e] at hz
      cases hz
  obtain ⟨k, _, hE, hn⟩ := h.at hne
  exact crt_cert hE hn hc hd
end
section
open Go.RowKit Oct Stb MI Bal Sha
set_option maxRecDepth 10000 in
set_option maxHeartbeats 8000000 in
theorem stCerts_any (W : World) (n : Int) (vv : Value) (ys : List PActT) (hvs : RL RActT 5 Any W vv ys) (hz : ∀ a ∈ ys, szAT a) (hT : Tab W) :
    Calls Tryd.prog 4 #[.int .i64 n, vv] W fun e w' => e = .returned (.bool true) ∧ Below W.heap.size W w' := by
  obtain ⟨aa, ca, rfl, _⟩ := hvs.form
  have hlv : (ys.length : Int) ≤ 9223372036854775807 := by
    by_cases h0 : 0 < ys.length
    · obtain ⟨_, _, _, _, h1, h2, _⟩ := hvs.at h0
      unfold maxLen at h2
      omega
    · omega
  go_enter Tryd.func4, Tryd.ntmps4
  go_upto_region 4 with (first
    | (go_at_call 8; refine (newT_any w1 n).mono ?_; rintro e w2 ⟨rfl, h2, b2⟩)
    | (go_at_call 7; refine (stableAlive_any W hT).mono ?_; rintro e w1 ⟨rfl, b1⟩))
  have BW2 := below_and b1 (Nat.le_refl _) b2
  have P2 : Mid W (w1.heap.size + 1) w1.heap.size n 0 w2 [] := ⟨h2, (hT.below b1).below b2, BW2, fun k hk => (by rcases hk with hk | hk; rw [hk]; exact b1.size; cases hk), Nat.le_succ_of_le b1.size⟩
  clear b1 b2 h2 hT
  generalize hm : w1.heap.size = m at *
  generalize hbb : m + 1 = b at *
  clear hm hbb
  by_cases hl100 : ys.length ≤ 100
  case neg =>
    have hgt : decide ((100 : Int) < (ys.length : Int)) = true := by simp; omega
    go_wp2_with fail
    go_ret
    exact ⟨rfl, BW2⟩
  have hgt : decide ((100 : Int) < (ys.length : Int)) = false := by simp; omega
  go_upto_region 7 with fail
  clear hgt
  go_loopw [26] (fun j wr => ∃ (q : Nat) (tl : PTl), q ≤ ys.length ∧ j = .int .i64 q ∧ Mid W b m n 0 wr tl) (fun j _ => ys.length - (intOf j).toNat)
  case atStart => exact ⟨0, [], by omega, rfl, P2⟩
  case round =>
    clear P2
    obtain ⟨q, tl, hq, rfl, hM⟩ := hrel
    by_cases hql : q < ys.length
    case neg =>
      have hS0 := slotsT_any wr hM.1
      obtain ⟨k, hk⟩ : ∃ k, k = (slotsL n tl).length := ⟨_, rfl⟩
      have hS : Calls Tryd.prog 14 #[.pointer (some ⟨b, 0, none⟩)] wr fun e w' => ∃ sa sc, e = .returned (.slice sa k sc) ∧ Below wr.heap.size wr w' := hS0.mono fun e w' ⟨v, h1, h2, h3⟩ => by
        obtain ⟨sa, sc, e2, _⟩ := h2.form
        exact ⟨sa, sc, by rw [h1, e2, hk], h3⟩
      have HR := (show Hid (k ≠ 0 → ∀ u : World, Calls Tryd.prog 15 #[.int .i64 n] u fun e w' => e = .returned (.bool true) ∧ w' = u) from fun h0 u => Bb.right_yes u n (hM.1.ok.right (fun e => h0 (by rw [hk, e]; simp [slotsL, srtI]))))
      have HBM := (show Hid (Below W.heap.size W wr) from hM.2.2.1)
      clear hM hS0 hk
      by_cases h0 : k = 0
      · subst h0
        go_wp2_with (go_at_call 14; refine hS.mono ?_; rintro e w8 ⟨sa, sc, rfl, b8⟩)
        go_ret
        exact ⟨rfl, below_and HBM.out (Nat.le_refl _) b8⟩
      · have hd1 : ((k : Int) == 0) = false := by simp; exact h0
        have hRR := HR.out h0
        clear HR
        go_wp2_with (first
          | (go_at_call 14; refine hS.mono ?_; rintro e w8 ⟨sa, sc, rfl, b8⟩)
          | (go_at_call 15; refine (hRR _).mono ?_; rintro e w9 ⟨rfl, hw9⟩; rw [hw9]; clear hw9 w9))
        go_ret
        exact ⟨rfl, below_and HBM.out (Nat.le_refl _) b8⟩
    obtain ⟨⟨cb, s, d, i, g⟩, hA⟩ : ∃ A, ys[q]? = some A := ⟨_, List.getElem?_eq_getElem hql⟩
    have hzA := hz _ (List.mem_of_getElem? hA)
    obtain ⟨bv, off, cap, hve, _, _, _, hbv, hat⟩ := hvs.at (by omega)
    obtain ⟨rvv, _, hrng, dv, gv, rfl, t1, t2⟩ := hat q _ hA
    injection hve with hv1 hv2 hv3
    subst hv1 hv3
    simp only at t1 t2 hrng
    obtain ⟨da, dc, rfl, _⟩ := t1.form
    obtain ⟨ga, gc, rfl, _⟩ := t2.form
    clear hv2 hat hA
    have hB := hM.2.2.1
    have hrng := rangeAt_block hrng (hB.block bv hbv)
    have hrow0 := Row.new wr 30 [.bool false, .int .i64 0, .slice none 0 0, .int .i64 0, .slice none 0 0]
    go_upto_region 9 with (first
      | (refine wpList_load_mid rfl _ _ rfl bv (off + q * 5) rfl [.bool cb, .int .i64 s, .slice da d.length dc, .int .i64 i, .slice ga g.length gc] _ hrng Tryd.underlying30 rfl (by kernel_rfl) ?_)
      | (refine wl_store rfl _ _ _ rfl wr.heap.size [.bool cb, .int .i64 s, .slice da d.length dc, .int .i64 i, .slice ga g.length gc] rfl rfl _ _ hrow0 rfl (by kernel_rfl) (fun u hu => by simp only [List.mem_cons, List.not_mem_nil, or_false] at hu; rcases hu with rfl | rfl | rfl | rfl | rfl <;> rfl) ?_; intro w5 r5 g5))
    have r5 := r5.out
    have b5 : Below wr.heap.size wr w5 := (below_alloc wr (.cells ([.bool false, .int .i64 0, .slice none 0 0, .int .i64 0, .slice none 0 0] : List Value).toArray 30)).trans (grown_below g5 (by simp) (fun k hk => by cases hk; exact Nat.le_refl _))
    have hM5 := hM.below b5
    have hB5 := hM5.2.2.1
    have t1W := t1
    have t1 := t1.mv (Mv.below hB5)
    have t2 := t2.mv (Mv.below hB5)
    generalize wr.heap.size = c7 at *
    clear hrow0 g5 hrng hB b5 hM
    have B0 : Below w5.heap.size w5 w5.drew := ⟨rfl, rfl, rfl, Nat.le_refl _, fun _ _ => rfl⟩
    have HRW := (show Hid (∀ u, Below w5.heap.size w5 u → Row u c7 30 [.bool cb, .int .i64 s, .slice da d.length dc, .int .i64 i, .slice ga g.length gc]) from fun u hu => r5.below hu)
    have HD := (show Hid (∀ u, Below w5.heap.size w5 u → Rd u (.slice da d.length dc) d ∧ RT Any u (.slice ga g.length gc) g) from fun u hu => ⟨(t1.mv (Mv.below hu)).1, t2.mv (Mv.below hu)⟩)
    have HDL := (show Hid (([] : List Int).length + d.length ≤ 140737488355328) from hid_dig hzA.1)
    have HDB := (show Hid (Byt d) from t1.1.1)
    have HSG := (show Hid (szT g) from hzA.2)
    have HADD := (show Hid (∀ u dv gv, Below w5.heap.size w5 u → Rd u dv d → Rd u gv g → Calls Tryd.prog 9 #[.pointer (some ⟨b, 0, none⟩), .int .i64 s, dv, .agg #[.int .i64 i, gv]] u fun e w' => ∃ nb, e = .returned (.bool (addB n 0 tl s d (i, g))) ∧ Hid (Mid W b m n 0 w' (addT n 0 tl nb s d (i, g)) ∧ Gs (Own1 m tl) u w' ∧ (∀ k, Own1 m tl k → ¬ NMap u k))) from fun u dv gv hu h1 h2 => (hM5.below hu).add s dv d h1 i gv g h2)
    have HD8 := (show Hid (∀ u, Below W.heap.size W u → Rd u (.slice da d.length dc) d) from fun u hu => (t1W.mv (Mv.below hu)).1)
    have HX := (show Hid (szAT (cb, s, d, i, g)) from hzA)
    clear t1 t2 t1W r5 hM5 hzA hB5
    have hbs0 := bs0
    have hbs1 := fun u => bs1 u i ga g.length gc
    try go_simp
    go_cut [8] from 27 to 73 (fun s8 wy => ∃ nb, s8 = .bool (addB n 0 tl s d (i, g)) ∧ Mid W b m n 0 wy (addT n 0 tl nb s d (i, g)) ∧ Row wy c7 30 [.bool cb, .int .i64 s, .slice da d.length dc, .int .i64 i, .slice ga g.length gc])
    case first =>
      try go_simp
      refine wp_region_held_drew (S := fun u => Row u c7 30 [.bool cb, .int .i64 s, .slice da d.length dc, .int .i64 i, .slice ga g.length gc]) (by kernel_rfl) (HRW.out _ B0) (fun hHeld => ?_)
      clear hHeld
      refine wpAnyH_take (i := 0) (v := .pointer (some ⟨b, 0, none⟩)) rfl (by kernel_rfl) (by kernel_rfl) (by kernel_rfl) (fun _ _ _ h => h) (Or.inl ⟨by kernel_rfl, fun u hSu => by go_simp⟩) (HRW.out w5.drew B0) ?_
      simp only [Act.put, List.setIfInBounds_toArray, List.set_cons_zero, List.set_cons_succ]
      refine wpAnyH_take (i := 1) (v := .pointer (some ⟨c7, 1, none⟩)) rfl (by kernel_rfl) (by kernel_rfl) (by kernel_rfl) (fun _ _ _ h => h) (Or.inl ⟨by kernel_rfl, fun u hSu => by go_simp⟩) (HRW.out w5.drew B0) ?_
      simp only [Act.put, List.setIfInBounds_toArray, List.set_cons_zero, List.set_cons_succ]
      refine wpAnyH_take (i := 2) (v := .int .i64 s) rfl (by kernel_rfl) (by kernel_rfl) (by kernel_rfl) (fun _ _ _ h => h) (Or.inl ⟨by kernel_rfl, fun u hSu => by have hck := (hSu).cell (j := 1) rfl; go_simp⟩) (HRW.out w5.drew B0) ?_
      simp only [Act.put, List.setIfInBounds_toArray, List.set_cons_zero, List.set_cons_succ]
      refine wpAnyH_take (i := 4) (v := .pointer (some ⟨c7, 2, none⟩)) rfl (by kernel_rfl) (by kernel_rfl) (by kernel_rfl) (fun _ _ _ h => h) (Or.inl ⟨by kernel_rfl, fun u hSu => by go_simp⟩) (HRW.out w5.drew B0) ?_
      simp only [Act.put, List.setIfInBounds_toArray, List.set_cons_zero, List.set_cons_succ]
      refine wpAnyH_take (i := 5) (v := .slice da d.length dc) rfl (by kernel_rfl) (by kernel_rfl) (by kernel_rfl) (fun _ _ _ h => h) (Or.inl ⟨by kernel_rfl, fun u hSu => by have hck := (hSu).cell (j := 2) rfl; go_simp⟩) (HRW.out w5.drew B0) ?_
      simp only [Act.put, List.setIfInBounds_toArray, List.set_cons_zero, List.set_cons_succ]
      refine wpAnyH_take (i := 7) (v := .pointer (some ⟨c7, 3, none⟩)) rfl (by kernel_rfl) (by kernel_rfl) (by kernel_rfl) (fun _ _ _ h => h) (Or.inl ⟨by kernel_rfl, fun u hSu => by go_simp⟩) (HRW.out w5.drew B0) ?_
      simp only [Act.put, List.setIfInBounds_toArray, List.set_cons_zero, List.set_cons_succ]
      refine wpAnyH_take (i := 8) (v := .agg #[.int .i64 i, .slice ga g.length gc]) rfl (by kernel_rfl) (by kernel_rfl) (by kernel_rfl) (fun _ _ _ h => h) (yieldsIf_load_mid (by kernel_rfl) _ _ rfl c7 3 (by go_simp) [.int .i64 i, .slice ga g.length gc] _ (fun u hSu => Row.midT hSu 3 rfl) Tryd.underlying28 rfl (by kernel_rfl)) (HRW.out w5.drew B0) ?_
      simp only [Act.put, List.setIfInBounds_toArray, List.set_cons_zero, List.set_cons_succ]
      simp only [List.getElem_toArray, List.getElem_cons_succ, List.getElem_cons_zero, Act.put, List.setIfInBounds_toArray, List.set_cons_zero, List.set_cons_succ]
      obtain ⟨u3, hu3⟩ : ∃ x, x = World.alloc w5.drew (.cells #[] 5) := ⟨_, rfl⟩
      have o3 : Own u3 5 (.slice (some ⟨w5.heap.size, 0, none⟩) 0 0) (bc []) := by rw [hu3]; exact own_zero w5.drew _
      have B3 : Below w5.heap.size w5 u3 := by rw [hu3]; exact below_and B0 (Nat.le_refl _) (below_alloc _ _)
      obtain ⟨v9w, hv9⟩ : ∃ x, x = World.alloc w5.drew (.cells #[.int .i64 i, .slice ga g.length gc] 28) := ⟨_, rfl⟩
      have C9 : Below w5.heap.size w5 v9w := by rw [hv9]; exact below_and B0 (Nat.le_refl _) (below_alloc _ _)
      have hc9 := hbs1 w5.drew
      rw [← hv9] at hc9
      refine wpAnyH_ready (rs := [3, 9]) (by kernel_rfl) (by simp) ?_
      refine AllReadyH.cons (o := _) rfl (fun K hK => ?_) (AllReadyH.cons (o := _) rfl (fun K hK => ?_) AllReadyH.nil)
      · clear hc9 C9 hv9
        go_simp
        first | rw [← hu3] | rw [show (World.alloc w5 (.cells #[] 5)).drew = u3 from by rw [hu3]; rfl]
        refine hK.out _ _ (HRW.out u3 B3) (fun hHeld => ?_)
        clear hK K hHeld hu3
        obtain ⟨u9, hu9⟩ : ∃ x, x = World.alloc u3 (.cells #[.int .i64 i, .slice ga g.length gc] 28) := ⟨_, rfl⟩
        have B9 : Below w5.heap.size w5 u9 := by rw [hu9]; exact below_and B3 (Nat.le_refl _) (below_alloc _ _)
        have hb9 := hbs1 u3
        rw [← hu9] at hb9
        refine wpAnyH_ready (rs := [6, 9]) (by kernel_rfl) (by simp) ?_
        refine AllReadyH.cons (o := _) rfl (fun K hK => ?_) (AllReadyH.cons (o := _) rfl (fun K hK => ?_) AllReadyH.nil)
        · clear hb9 B9 hu9
          refine step_bytes (by rfl) _ _ (by rfl) (.slice (some ⟨w5.heap.size, 0, none⟩) 0 0) [] (by rfl) o3 (.slice da d.length dc) d (by rfl) (HD.out u3 B3).1.2 HDL.out ?_
          intro v6 u6 happ6
          have B6 : Below w5.heap.size w5 u6 := (B3).trans (happ6.below (fr_at _ _ _ _ (Nat.le_refl _)) (B3).size)
          have R6 : Rd u6 v6 d := Own.rd (l := d) (by simpa using happ6.own) HDB.out
          have g6 := happ6.grown
          obtain ⟨a6, n6, c6, rfl⟩ := own_slice happ6.own
          refine hK.out _ _ (HRW.out u6 B6) (fun hHeld => ?_)
          clear hK K hHeld happ6
          simp only [List.getElem_toArray, List.getElem_cons_succ, List.getElem_cons_zero, Act.put, List.setIfInBounds_toArray, List.set_cons_zero, List.set_cons_succ]
          obtain ⟨u9b, hu9⟩ : ∃ x, x = World.alloc u6 (.cells #[.int .i64 i, .slice ga g.length gc] 28) := ⟨_, rfl⟩
          have B9 : Below w5.heap.size w5 u9b := by rw [hu9]; exact below_and B6 (Nat.le_refl _) (below_alloc _ _)
          have hb9 := hbs1 u6
          rw [← hu9] at hb9
          refine wpAnyH_ready (rs := [9]) (by kernel_rfl) (by simp) ?_
          refine AllReadyH.cons (o := _) rfl (fun K hK => ?_) AllReadyH.nil
          have R9 : RL RVote 2 Any u9b (.slice (some ⟨u6.heap.size, 0, none⟩) 1 1) [(i, g)] := by rw [hu9]; exact rl_oneT (HD.out u6 B6).2 trivial
          have R6 : Rd u9b (.slice a6 n6 c6) d := by rw [hu9]; exact R6.below (below_alloc _ _)
          go_simp
          first | rw [← hu9] | rw [show (World.alloc w5 (.cells #[.int .i64 i, .slice ga g.length gc] 28)).drew = u9b from by rw [hu9]; rfl] | skip
          refine hK.out _ _ (HRW.out u9b B9) (fun hHeld => ?_)
          clear hK K hHeld hb9
          clear hu9
          refine wpAnyH_ready (rs := [10]) (by kernel_rfl) (by simp) ?_
          refine AllReadyH.cons (o := _) rfl (fun K hK => ?_) AllReadyH.nil
          go_simp
          refine (copy1_any u9b _ i g R9 HSG.out).mono ?_
          rintro e u10 ⟨x, y, z, ga2, gc2, rfl, hr10, ht10, b10, hx10⟩
          have B10 := below_and B9 (Nat.le_refl _) b10.out
          have R6 := R6.below b10.out
          try go_simp
          refine hK.out _ _ (HRW.out u10 B10) (fun hHeld => ?_)
          clear hK K hHeld
          refine wpAnyH_take (i := 11) (v := .pointer (some ⟨x, y, none⟩)) rfl (by kernel_rfl) (by kernel_rfl) (by kernel_rfl) (fun _ _ _ h => h) (Or.inl ⟨by kernel_rfl, fun u hSu => by go_simp⟩) (HRW.out u10 B10) ?_
          simp only [Act.put, List.setIfInBounds_toArray, List.set_cons_zero, List.set_cons_succ]
          simp only [List.getElem_toArray, List.getElem_cons_succ, List.getElem_cons_zero, Act.put, List.setIfInBounds_toArray, List.set_cons_zero, List.set_cons_succ]
          refine wpAnyH_ready (rs := [12]) (by kernel_rfl) (by simp) ?_
          refine AllReadyH.cons (o := _) rfl (fun K hK => ?_) AllReadyH.nil
          refine step_loadM (by kernel_rfl) _ _ (by rfl) x y (by rfl) [.int .i64 i, .slice ga2 g.length gc2] _ hr10.out Tryd.underlying28 rfl (by kernel_rfl) ?_
          refine hK.out _ _ (HRW.out u10 B10) (fun hHeld => ?_)
          clear hK K hHeld
          simp only [List.getElem_toArray, List.getElem_cons_succ, List.getElem_cons_zero, Act.put, List.setIfInBounds_toArray, List.set_cons_zero, List.set_cons_succ]
          refine wpAnyH_ready (rs := [13]) (by kernel_rfl) (by simp) ?_
          refine AllReadyH.cons (o := _) rfl (fun K hK => ?_) AllReadyH.nil
          go_simp
          refine (HADD.out u10 _ _ B10 R6 ht10.out.1).mono ?_
          rintro e u13 ⟨nb, rfl, h13⟩
          have S13 := row_gs (HRW.out u10 B10) h13.out.2.1 h13.out.2.2
          try go_simp
          refine hK.out _ _ S13 (fun hHeld => ?_)
          clear hK K hHeld
          refine wpAnyH_ready (rs := [14]) (by kernel_rfl) (by simp) ?_
          refine AllReadyH.cons (o := _) rfl (fun K hK => ?_) AllReadyH.nil
          go_simp
          refine hK.out _ _ S13 (fun hHeld => ?_)
          clear hK K hHeld
          refine wpAnyH_done (by kernel_rfl) ?_ _
          go_wp2_with fail
          go_meet
          case rel => exact ⟨nb, rfl, h13.out.1, S13⟩
        · have R9 : RL RVote 2 (fun k => k ≠ w5.heap.size) u9 (.slice (some ⟨u3.heap.size, 0, none⟩) 1 1) [(i, g)] := by rw [hu9]; exact rl_oneT (((HD.out w5 (Below.refl _ _)).2.mv (G' := fun k => k ≠ w5.heap.size) (fun k _ hlt => ⟨rfl, by omega⟩)).mv (Mv.belowG B3)) (by have := (own_lt0 o3); omega)
          have o9 : Own u9 5 (.slice (some ⟨w5.heap.size, 0, none⟩) 0 0) (bc []) := by rw [hu9]; exact o3.below (below_alloc _ _)
          go_simp
          first | rw [← hu9] | rw [show (World.alloc w5 (.cells #[.int .i64 i, .slice ga g.length gc] 28)).drew = u9 from by rw [hu9]; rfl] | skip
          refine hK.out _ _ (HRW.out u9 B9) (fun hHeld => ?_)
          clear hK K hHeld hb9
          clear hu9
          refine wpAnyH_ready (rs := [6]) (by kernel_rfl) (by simp) ?_
          refine AllReadyH.cons (o := _) rfl (fun K hK => ?_) AllReadyH.nil
          refine step_bytes (by rfl) _ _ (by rfl) (.slice (some ⟨w5.heap.size, 0, none⟩) 0 0) [] (by rfl) o9 (.slice da d.length dc) d (by rfl) (HD.out u9 B9).1.2 HDL.out ?_
          intro v6 u6 happ6
          have B6 : Below w5.heap.size w5 u6 := (B9).trans (happ6.below (fr_at _ _ _ _ (Nat.le_refl _)) (B9).size)
          have R6 : Rd u6 v6 d := Own.rd (l := d) (by simpa using happ6.own) HDB.out
          have g6 := happ6.grown
          obtain ⟨a6, n6, c6, rfl⟩ := own_slice happ6.own
          refine hK.out _ _ (HRW.out u6 B6) (fun hHeld => ?_)
          clear hK K hHeld happ6
          simp only [List.getElem_toArray, List.getElem_cons_succ, List.getElem_cons_zero, Act.put, List.setIfInBounds_toArray, List.set_cons_zero, List.set_cons_succ]
          have R9 := R9.mv (G' := Any) mov_vote g6.size (fun k hk hlt => ⟨g6.block k hlt (fun e => hk (Option.some.inj e)), trivial⟩)
          refine wpAnyH_ready (rs := [10]) (by kernel_rfl) (by simp) ?_
          refine AllReadyH.cons (o := _) rfl (fun K hK => ?_) AllReadyH.nil
          go_simp
          refine (copy1_any u6 _ i g R9 HSG.out).mono ?_
          rintro e u10 ⟨x, y, z, ga2, gc2, rfl, hr10, ht10, b10, hx10⟩
          have B10 := below_and B6 (Nat.le_refl _) b10.out
          have R6 := R6.below b10.out
          try go_simp
          refine hK.out _ _ (HRW.out u10 B10) (fun hHeld => ?_)
          clear hK K hHeld
          refine wpAnyH_take (i := 11) (v := .pointer (some ⟨x, y, none⟩)) rfl (by kernel_rfl) (by kernel_rfl) (by kernel_rfl) (fun _ _ _ h => h) (Or.inl ⟨by kernel_rfl, fun u hSu => by go_simp⟩) (HRW.out u10 B10) ?_
          simp only [Act.put, List.setIfInBounds_toArray, List.set_cons_zero, List.set_cons_succ]
          simp only [List.getElem_toArray, List.getElem_cons_succ, List.getElem_cons_zero, Act.put, List.setIfInBounds_toArray, List.set_cons_zero, List.set_cons_succ]
          refine wpAnyH_ready (rs := [12]) (by kernel_rfl) (by simp) ?_
          refine AllReadyH.cons (o := _) rfl (fun K hK => ?_) AllReadyH.nil
          refine step_loadM (by kernel_rfl) _ _ (by rfl) x y (by rfl) [.int .i64 i, .slice ga2 g.length gc2] _ hr10.out Tryd.underlying28 rfl (by kernel_rfl) ?_
          refine hK.out _ _ (HRW.out u10 B10) (fun hHeld => ?_)
          clear hK K hHeld
          simp only [List.getElem_toArray, List.getElem_cons_succ, List.getElem_cons_zero, Act.put, List.setIfInBounds_toArray, List.set_cons_zero, List.set_cons_succ]
          refine wpAnyH_ready (rs := [13]) (by kernel_rfl) (by simp) ?_
          refine AllReadyH.cons (o := _) rfl (fun K hK => ?_) AllReadyH.nil
          go_simp
          refine (HADD.out u10 _ _ B10 R6 ht10.out.1).mono ?_
          rintro e u13 ⟨nb, rfl, h13⟩
          have S13 := row_gs (HRW.out u10 B10) h13.out.2.1 h13.out.2.2
          try go_simp
          refine hK.out _ _ S13 (fun hHeld => ?_)
          clear hK K hHeld
          refine wpAnyH_ready (rs := [14]) (by kernel_rfl) (by simp) ?_
          refine AllReadyH.cons (o := _) rfl (fun K hK => ?_) AllReadyH.nil
          go_simp
          refine hK.out _ _ S13 (fun hHeld => ?_)
          clear hK K hHeld
          refine wpAnyH_done (by kernel_rfl) ?_ _
          go_wp2_with fail
          go_meet
          case rel => exact ⟨nb, rfl, h13.out.1, S13⟩
      · clear hu3 o3 B3
        have R9 : RL RVote 2 Any v9w (.slice (some ⟨w5.heap.size, 0, none⟩) 1 1) [(i, g)] := by rw [hv9]; exact rl_oneT (w := w5.drew) (HD.out w5.drew B0).2 trivial
        have hv9s : w5.heap.size < v9w.heap.size := by rw [hv9]; simp
        go_simp
        first | rw [← hv9] | rw [show (World.alloc w5 (.cells #[.int .i64 i, .slice ga g.length gc] 28)).drew = v9w from by rw [hv9]; rfl] | skip
        refine hK.out _ _ (HRW.out v9w C9) (fun hHeld => ?_)
        clear hK K hHeld hc9
        clear hv9
        obtain ⟨u3b, hu3⟩ : ∃ x, x = World.alloc v9w (.cells #[] 5) := ⟨_, rfl⟩
        have o3 : Own u3b 5 (.slice (some ⟨v9w.heap.size, 0, none⟩) 0 0) (bc []) := by rw [hu3]; exact own_zero v9w _
        have B3 : Below w5.heap.size w5 u3b := by rw [hu3]; exact below_and C9 (Nat.le_refl _) (below_alloc _ _)
        refine wpAnyH_ready (rs := [3]) (by kernel_rfl) (by simp) ?_
        refine AllReadyH.cons (o := _) rfl (fun K hK => ?_) AllReadyH.nil
        have R9 : RL RVote 2 (fun k => k ≠ v9w.heap.size) u3b (.slice (some ⟨w5.heap.size, 0, none⟩) 1 1) [(i, g)] := by rw [hu3]; exact (R9.mv (G' := fun k => k ≠ v9w.heap.size) mov_vote (Nat.le_refl _) (fun k _ hlt => ⟨rfl, by omega⟩)).mv mov_vote (below_alloc _ _).size (Mv.belowG (below_alloc _ _))
        go_simp
        first | rw [← hu3] | rw [show (World.alloc w5 (.cells #[] 5)).drew = u3b from by rw [hu3]; rfl]
        refine hK.out _ _ (HRW.out u3b B3) (fun hHeld => ?_)
        clear hK K hHeld hu3
        refine wpAnyH_ready (rs := [6]) (by kernel_rfl) (by simp) ?_
        refine AllReadyH.cons (o := _) rfl (fun K hK => ?_) AllReadyH.nil
        refine step_bytes (by rfl) _ _ (by rfl) (.slice (some ⟨v9w.heap.size, 0, none⟩) 0 0) [] (by rfl) o3 (.slice da d.length dc) d (by rfl) (HD.out u3b B3).1.2 HDL.out ?_
        intro v6 u6 happ6
        have B6 : Below w5.heap.size w5 u6 := (B3).trans (happ6.below (fr_at _ _ _ _ (by omega)) (B3).size)
        have R6 : Rd u6 v6 d := Own.rd (l := d) (by simpa using happ6.own) HDB.out
        have g6 := happ6.grown
        obtain ⟨a6, n6, c6, rfl⟩ := own_slice happ6.own
        refine hK.out _ _ (HRW.out u6 B6) (fun hHeld => ?_)
        clear hK K hHeld happ6
        simp only [List.getElem_toArray, List.getElem_cons_succ, List.getElem_cons_zero, Act.put, List.setIfInBounds_toArray, List.set_cons_zero, List.set_cons_succ]
        have R9 := R9.mv (G' := Any) mov_vote g6.size (fun k hk hlt => ⟨g6.block k hlt (fun e => hk (Option.some.inj e)), trivial⟩)
        refine wpAnyH_ready (rs := [10]) (by kernel_rfl) (by simp) ?_
        refine AllReadyH.cons (o := _) rfl (fun K hK => ?_) AllReadyH.nil
        go_simp
        refine (copy1_any u6 _ i g R9 HSG.out).mono ?_
        rintro e u10 ⟨x, y, z, ga2, gc2, rfl, hr10, ht10, b10, hx10⟩
        have B10 := below_and B6 (Nat.le_refl _) b10.out
        have R6 := R6.below b10.out
        try go_simp
        refine hK.out _ _ (HRW.out u10 B10) (fun hHeld => ?_)
        clear hK K hHeld
        refine wpAnyH_take (i := 11) (v := .pointer (some ⟨x, y, none⟩)) rfl (by kernel_rfl) (by kernel_rfl) (by kernel_rfl) (fun _ _ _ h => h) (Or.inl ⟨by kernel_rfl, fun u hSu => by go_simp⟩) (HRW.out u10 B10) ?_
        simp only [Act.put, List.setIfInBounds_toArray, List.set_cons_zero, List.set_cons_succ]
        simp only [List.getElem_toArray, List.getElem_cons_succ, List.getElem_cons_zero, Act.put, List.setIfInBounds_toArray, List.set_cons_zero, List.set_cons_succ]
        refine wpAnyH_ready (rs := [12]) (by kernel_rfl) (by simp) ?_
        refine AllReadyH.cons (o := _) rfl (fun K hK => ?_) AllReadyH.nil
        refine step_loadM (by kernel_rfl) _ _ (by rfl) x y (by rfl) [.int .i64 i, .slice ga2 g.length gc2] _ hr10.out Tryd.underlying28 rfl (by kernel_rfl) ?_
        refine hK.out _ _ (HRW.out u10 B10) (fun hHeld => ?_)
        clear hK K hHeld
        simp only [List.getElem_toArray, List.getElem_cons_succ, List.getElem_cons_zero, Act.put, List.setIfInBounds_toArray, List.set_cons_zero, List.set_cons_succ]
        refine wpAnyH_ready (rs := [13]) (by kernel_rfl) (by simp) ?_
        refine AllReadyH.cons (o := _) rfl (fun K hK => ?_) AllReadyH.nil
        go_simp
        refine (HADD.out u10 _ _ B10 R6 ht10.out.1).mono ?_
        rintro e u13 ⟨nb, rfl, h13⟩
        have S13 := row_gs (HRW.out u10 B10) h13.out.2.1 h13.out.2.2
        try go_simp
        refine hK.out _ _ S13 (fun hHeld => ?_)
        clear hK K hHeld
        refine wpAnyH_ready (rs := [14]) (by kernel_rfl) (by simp) ?_
        refine AllReadyH.cons (o := _) rfl (fun K hK => ?_) AllReadyH.nil
        go_simp
        refine hK.out _ _ S13 (fun hHeld => ?_)
        clear hK K hHeld
        refine wpAnyH_done (by kernel_rfl) ?_ _
        go_wp2_with fail
        go_meet
        case rel => exact ⟨nb, rfl, h13.out.1, S13⟩
    case rest =>
    obtain ⟨nb, rfl, hM, r7⟩ := hcut
    clear HADD hbs0 hbs1 HRW B0
    have hC := certT_any wc hM.1 s
    have k1 := r7.cell (j := 1) rfl
    go_upto_region 11 with (go_at_call 11; refine hC.mono ?_; rintro e w8 ⟨dv, lv, rfl, d', hd', ls, hl', hcr, b8⟩; obtain ⟨xa, xc, rfl, _⟩ := hd'.form; obtain ⟨la, lc, rfl, _⟩ := hl'.form)
    have hM8 := hM.below b8
    have r8 := r7.below b8
    have k1 := r8.cell (j := 1) rfl
    have k2 := r8.cell (j := 2) rfl
    have hdd := (HD.out w5 (Below.refl _ _)).1
    have hd8 : Rd w8 (.slice da d.length dc) d := HD8.out w8 hM8.2.2.1
    have hS := same_any w8 _ _ d' d hd' hd8
    have hV := vCert_any w8 10 0 0 s _ d' n _ ls hd' (Nat.le_trans (crt_len hM.1.ok hcr) (by decide)) hl' hM8.2.1
    have hbz : ∀ u, (Instr.build 39 #[]).run Tryd.prog u = .ok (.agg #[.int .i64 0, .int .i64 0]) u := fun u => by kernel_rfl
    have HG := (show Hid (addB n 0 tl s d (i, g) = true → d' = d) from fun hb => crt_got hM.1.ok hb hcr)
    have HV := (show Hid (d' ≠ [] → certL (rightV 10 0 0 s d') n ls = true) from fun h => crt_certT hM.1.ok hcr h)
    have HM8 := (show Hid (Mid W b m n 0 w8 (addT n 0 tl nb s d (i, g))) from hM8)
    have hszw : wc.heap.size ≤ w8.heap.size := b8.size
    clear hM hM8 hC r7 r8 b8 hcr hl' hdd hd8
    have hVP : ∀ {r : Bool}, certL (rightV 10 0 0 s d') n ls = r → Calls Tryd.prog 13 #[.int .i64 10, .agg #[.int .i64 0, .int .i64 0], .int .i64 s, .slice xa d'.length xc, .slice la ls.length lc, .int .i64 n] w8 fun e w' => e = .returned (.bool r) ∧ Below w8.heap.size w8 w' := fun h => h ▸ hV
    have HVP := (show Hid (d' ≠ [] → Calls Tryd.prog 13 #[.int .i64 10, .agg #[.int .i64 0, .int .i64 0], .int .i64 s, .slice xa d'.length xc, .slice la ls.length lc, .int .i64 n] w8 fun e w' => e = .returned (.bool true) ∧ Below w8.heap.size w8 w') from fun h => hVP (HV.out h))
    have HSP := (show Hid (d' = d → Calls Tryd.prog 12 #[.slice xa d'.length xc, .slice da d.length dc] w8 fun e w' => e = .returned (.bool true) ∧ w' = w8) from fun h => by rw [decide_eq_true h] at hS; exact hS)
    clear hS hV hVP
    have hl0 : decide ((0 : Int) < (d'.length : Int)) = decide (0 < d'.length) := by simp
    cases hg : addB n 0 tl s d (i, g) with
    | true =>
      have hSS := HSP.out (HG.out hg)
      clear HSP HG hg
      by_cases h0 : 0 < d'.length
      · have hVV := HVP.out (fun e => by rw [e] at h0; exact absurd h0 (by decide))
        clear HVP HV
        go_wp2_with (first | (go_at_call 12; refine hSS.mono ?_; rintro e w9 ⟨rfl, hw9⟩; rw [hw9]; clear hw9 w9) | (go_at_call 13; refine hVV.mono ?_; rintro e w10 ⟨rfl, b10⟩))
        go_roundw
        case rel => exact ⟨q + 1, _, by omega, by go_num, HM8.out.below b10⟩
        case measure => simp [intOf]; omega
      · clear HVP HV
        have hd0 : decide (0 < d'.length) = false := decide_eq_false h0
        go_wp2_with (go_at_call 12; refine hSS.mono ?_; rintro e w9 ⟨rfl, hw9⟩; rw [hw9]; clear hw9 w9)
        go_roundw
        case rel => exact ⟨q + 1, _, by omega, by go_num, HM8.out⟩
        case measure => simp [intOf]; omega
    | false =>
      clear HSP HG hg
      by_cases h0 : 0 < d'.length
      · have hVV := HVP.out (fun e => by rw [e] at h0; exact absurd h0 (by decide))
        clear HVP HV
        go_wp2_with (go_at_call 13; refine hVV.mono ?_; rintro e w10 ⟨rfl, b10⟩)
        go_roundw
        case rel => exact ⟨q + 1, _, by omega, by go_num, HM8.out.below b10⟩
        case measure => simp [intOf]; omega
      · clear HVP HV
        have hd0 : decide (0 < d'.length) = false := decide_eq_false h0
        go_wp2_with fail
        go_roundw
        case rel => exact ⟨q + 1, _, by omega, by go_num, HM8.out⟩
        case measure => simp [intOf]; omega
end
end Go.Proofs.YtgpkngiakhdmhaaDoor
