/- catenarylaw17.WindowOnce: its walk. Written by mk19o.py. -/
import Derived.Test.YtjloehkolnjnhaaXOBO
import Derived.Test.YtjloehkolnjnhaaXOBQ
import Derived.Test.YtjloehkolnjnhaaXOBR
import Derived.Test.YtjloehkolnjnhaaXOBS
import Derived.Test.YtjloehkolnjnhaaXOBT
import Derived.Test.YtjloehkolnjnhaaXOBX
import Derived.Test.YtjloehkolnjnhaaXOBI
import Derived.Test.YtjloehkolnjnhaaXOBB
import Derived.Test.YtjloehkolnjnhaaXOBU
import Derived.Deep.CutRange
import Derived.Deep.RegionHeld3
import Derived.Deep.MidRow
set_option linter.unusedSimpArgs false
set_option linter.unusedVariables false
namespace Go.Proofs.Ytjloehkolnjnhaa
section
open Go.RowKit Oct Kvl Bal
theorem do_any {G GD : Nat → Prop} {b m : Nat} {low : Int} {kn : List (Int × PSl)} (w : World) (h : Wnd G w b m low kn) (hg0 : Gd G b m w.heap.size) (cs : List Value) (ld : Int) (sls : List PSl) (hD : RDw GD w cs ld sls) (hG : ∀ j, GD j → NB b m j ∧ j < w.heap.size)
    (r : List Value) (a : PWAct) (ha : RWAct GD w r a) (hk : -9223372036854775808 ≤ a.2.1 ∧ a.2.1 ≤ 9223372036854775807) (hz : szP a.2) :
    Calls Try.prog 9 #[.pointer (some ⟨b, 0, none⟩), .agg cs.toArray, .agg r.toArray] w fun e w' => ∃ cs', e = .returned (.tuple #[.agg cs'.toArray, .int .i64 (stA low kn a).2, .int .i64 (stB ld sls a).2]) ∧
      RDw GD w' cs' (stB ld sls a).1.1 (stB ld sls a).1.2 ∧ Wnd G w' b m (stA low kn a).1.1 (stA low kn a).1.2 ∧ Gw w w' b m := by
  obtain ⟨o, g, c, rfl, h1, h2, h3⟩ := ha
  obtain ⟨kd, k, bl, x, ct⟩ := a
  have bt : ∀ n : Int, kd = n → (kd == n) = true := fun n e => by simp [e]
  have bf : ∀ n : Int, kd ≠ n → (kd == n) = false := fun n e => by simp [e]
  by_cases k0 : kd = 0
  · unfold stA stB
    rw [if_pos k0, if_pos k0]
    exact do_vote w h hg0 cs ld sls hD hG kd bl k hk o g x h1 h2 c ct h3 hz.1 hz.2 (bt 0 k0) (bf 1 (by simp only [k0]; decide)) (bf 2 (by simp only [k0]; decide)) (bf 3 (by simp only [k0]; decide))
  by_cases k1 : kd = 1
  · unfold stA stB
    rw [if_neg k0, if_pos k1, if_neg k0, if_pos k1]
    exact do_prep w h hg0 cs ld sls hD hG kd bl k hk o g x h1 h2 c ct h3 hz.1 hz.2 (bf 0 k0) (bt 1 k1) (bf 2 (by simp only [k1]; decide)) (bf 3 (by simp only [k1]; decide))
  by_cases k2 : kd = 2
  · unfold stA stB
    rw [if_neg k0, if_neg k1, if_pos k2, if_neg k0, if_neg k1, if_pos k2]
    exact do_done w h hg0 cs ld sls hD hG kd bl k hk o g x h1 h2 c ct h3 hz.1 hz.2 (bf 0 k0) (bf 1 k1) (bt 2 k2) (bf 3 (by simp only [k2]; decide))
  by_cases k3 : kd = 3
  · unfold stA stB
    rw [if_neg k0, if_neg k1, if_neg k2, if_pos k3, if_neg k0, if_neg k1, if_neg k2, if_pos k3]
    exact do_cut w h hg0 cs ld sls hD hG kd bl k hk o g x h1 h2 c ct h3 hz.1 hz.2 (bf 0 k0) (bf 1 k1) (bf 2 k2) (bt 3 k3)
  · unfold stA stB
    rw [if_neg k0, if_neg k1, if_neg k2, if_neg k3, if_neg k0, if_neg k1, if_neg k2, if_neg k3]
    exact do_none w h hg0 cs ld sls hD hG kd bl k hk o g x h1 h2 c ct h3 hz.1 hz.2 ⟨k0, k1, k2, k3⟩
end
section
open Go.RowKit Oct Kvl Bal
section
variable {P : Program}
theorem AllReadyH.moreW {md : Region.Mode} {ops : Array Oper} {Q : Exit → Act → World → Prop} {S : World → Prop} {fuel : Nat} {listed : Array Bool} {a : Act} {w : World} {i : Nat} {rs : List Nat} (h : wpOp P ops Q i (fun a' w' => S w' ∧ wpAnyH P md ops Q S fuel (listed.setIfInBounds i true) a' w') a w) (hs : AllReadyH P md ops Q S fuel listed a w rs) : AllReadyH P md ops Q S fuel listed a w (i :: rs) := fun j hj => by
  rcases List.mem_cons.1 hj with rfl | hj
  · exact h
  · exact hs j hj
theorem wpOp_allocW {ops : Array Oper} {Q : Exit → Act → World → Prop} {i : Nat} {K : Act → World → Prop} {a : Act} {w : World} {o : Oper} (hi : ops[i]? = some o) (hgd : o.guard = none) (ty : TypeId) (ho : o.op = .alloc ty) (d : Option Nat) (hd : o.dst = d) (zs : List Value)
    (hz : (zeroValue ty).run P w = .ok (.agg zs.toArray) w) (k : ∀ w' b, Row w' b ty zs → Below w.heap.size w w' → w.heap.size ≤ b → b < w'.heap.size → K (a.put d (.pointer (some ⟨b, 0, none⟩))) w') : wpOp P ops Q i K a w := by
  subst hd
  have hw : Region.wanted o (yielded ops a.tmps) = true := by simp [Region.wanted, hgd]
  have hk := k (w.alloc (.cells zs.toArray ty)) w.heap.size (Row.new w ty zs) (below_alloc _ _) (Nat.le_refl _) (by simp)
  unfold wpOp
  rw [hi]
  simp only [hw, if_true]
  left
  unfold Oper.wp execOp
  simp [ho, Instr.alloc, hz, newVar, newRow, newObj, Oper.upon, Value.cells]
  exact hk
theorem wpOp_store1W {ops : Array Oper} {Q : Exit → Act → World → Prop} {i : Nat} {K : Act → World → Prop} {a : Act} {w : World} {o : Oper} (hi : ops[i]? = some o) (hgd : o.guard = none) (ty : TypeId) (x y : Operand) (ho : o.op = .store ty x y)
    (b : Nat) (ys : List Value) (hx : a.eval x = .pointer (some ⟨b, 0, none⟩)) (hy : a.eval y = .agg ys.toArray) (t : TypeId) (xs : List Value) (h : Row w b t xs) (hl : xs.length = ys.length)
    (hs : (P.info? ty).map (·.size) = some ys.length) (h1 : ∀ v ∈ ys, v.oneCell' = true) (k : ∀ w', Row w' b t ys → w.grownBy w' (some b) → K (a.put o.dst undef) w') : wpOp P ops Q i K a w := by
  have hw : Region.wanted o (yielded ops a.tmps) = true := by simp [Region.wanted, hgd]
  unfold wpOp
  rw [hi]
  simp only [hw, if_true]
  left
  unfold Oper.wp execOp
  simp only [ho, hx, hy, Sem.run_bind, Sem.run_pure, Result.andThen_ok, h.store ty ys hl hs h1]
  exact k _ (h.setRow ys) (grown_setRow _ _ _)
/-- One cell is stored there. -/
theorem wpOp_storeW {ops : Array Oper} {Q : Exit → Act → World → Prop} {i : Nat} {K : Act → World → Prop} {a : Act} {w : World} {o : Oper} (hi : ops[i]? = some o) (hgd : o.guard = none) (ty : TypeId) (x y : Operand) (ho : o.op = .store ty x y) (hd : o.dst = none)
    (b : Nat) (ys : List Value) (hx : a.eval x = .pointer (some ⟨b, 0, none⟩)) (hy : a.eval y = .agg ys.toArray) (t : TypeId) (xs : List Value) (h : Row w b t xs) (hl : xs.length = ys.length)
    (hs : (P.info? ty).map (·.size) = some ys.length) (h1 : ∀ v ∈ ys, v.oneCell' = true) (k : ∀ w', Row w' b t ys → w.grownBy w' (some b) → K a w') : wpOp P ops Q i K a w :=
  wpOp_store1W hi hgd ty x y ho b ys hx hy t xs h hl hs h1 (fun w' h1 h2 => by rw [hd]; exact k w' h1 h2)
end
theorem LB.fmW {α : Type} {R : (Nat → Prop) → World → List Value → α → Prop} {T : TypeId} {k B : Nat} {w : World} {v : Value} {ys : List α} (h : LB R T k B w v ys) : ∃ ao cap, v = .slice ao ys.length cap := by
  obtain ⟨rows, h0, h1, h2, h3⟩ := h
  rcases h1.2 with ⟨rfl, e⟩ | ⟨g, cap, cur, rfl, _⟩
  · have := h3.len
    exact ⟨none, 0, by rw [← this, e]⟩
  · have := h3.len
    exact ⟨_, cap, by rw [← this]⟩
theorem one_Ac {kd k b1 b2 x1 x2 : Int} {o s c : Value} (h1 : o.oneCell' = true) (h2 : s.oneCell' = true) (h3 : c.oneCell' = true) : ∀ u ∈ [Value.int .i64 kd, .int .i64 k, .int .i64 b1, .int .i64 b2, .int .i64 x1, .int .i64 x2, o, s, c], u.oneCell' = true := by
  intro u hu
  simp only [List.mem_cons, List.not_mem_nil, or_false] at hu
  rcases hu with rfl | rfl | rfl | rfl | rfl | rfl | rfl | rfl | rfl <;> first | rfl | assumption
theorem one_Pc {k b1 b2 x1 x2 : Int} {o s c : Value} (h1 : o.oneCell' = true) (h2 : s.oneCell' = true) (h3 : c.oneCell' = true) : ∀ u ∈ [Value.int .i64 k, .int .i64 b1, .int .i64 b2, .int .i64 x1, .int .i64 x2, o, s, c], u.oneCell' = true := by
  intro u hu
  simp only [List.mem_cons, List.not_mem_nil, or_false] at hu
  rcases hu with rfl | rfl | rfl | rfl | rfl | rfl | rfl | rfl <;> first | rfl | assumption
set_option maxRecDepth 10000 in
set_option maxHeartbeats 8000000 in
theorem onceW_any (W : World) (L : Int) (vv : Value) (ys : List PWAct) (hvs : RL RWAct 9 Any W vv ys) (hz : ∀ a ∈ ys, szWA a) :
    Calls Try.prog 4 #[.int .i64 L, vv] W fun e w' => e = .returned (.bool true) ∧ Below W.heap.size W w' := by
  obtain ⟨aa, ca, rfl, _⟩ := hvs.form
  have hlv : (ys.length : Int) ≤ 9223372036854775807 := by
    by_cases h0 : 0 < ys.length
    · obtain ⟨_, _, _, _, h1, h2, _⟩ := hvs.at h0
      unfold maxLen at h2
      omega
    · omega
  go_enter Try.func4, Try.ntmps4
  go_upto_region 4 with (first
    | (go_at_call 7; refine (newW_any w1 L).mono ?_; rintro e w2 ⟨rfl, h2, b2⟩)
    | (go_at_call 6; refine (windowAlive_any W).mono ?_; rintro e w1 ⟨rfl, b1⟩))
  have hs1 := b1.size
  have BW2 := below_and b1 (Nat.le_refl _) b2
  have hlt2 := h2.lt
  clear b1 b2
  generalize hm : w1.heap.size = m at *
  generalize hbb : m + 1 = b at *
  have hmb : m < b := by omega
  clear hm hbb
  by_cases hl100 : ys.length ≤ 100
  case neg =>
    have hgt : decide ((100 : Int) < (ys.length : Int)) = true := by simp; omega
    go_wp2_with fail
    go_ret
    exact ⟨rfl, BW2⟩
  have hgt : decide ((100 : Int) < (ys.length : Int)) = false := by simp; omega
  go_upto_region 8 with fail
  clear hgt
  obtain ⟨w3, hw3⟩ : ∃ u, u = w2.alloc (.cells #[] 39) := ⟨_, rfl⟩
  obtain ⟨w4, hw4⟩ : ∃ u, u = w3.alloc (.cells #[] 39) := ⟨_, rfl⟩
  have e3 : w3.heap.size = w2.heap.size + 1 := by rw [hw3]; simp
  have b3 : Below w2.heap.size w2 w3 := by rw [hw3]; exact below_alloc _ _
  have b4 : Below w3.heap.size w3 w4 := by rw [hw4]; exact below_alloc _ _
  have hL3 := LB.fresh (RPc W) 39 8 w2.heap.size w2 (Nat.le_refl _)
  rw [← hw3] at hL3
  have hL4 := LB.fresh (RPc W) 39 8 w2.heap.size w3 b3.size
  rw [← hw4, e3] at hL4
  have hww : w4 = (w2.alloc (.cells #[] 39)).alloc (.cells #[] 39) := by rw [hw4, hw3]
  have b24 := below_and b3 (Nat.le_refl _) b4
  have hs24 : w4.heap.size = w2.heap.size + 2 := by rw [hww]; simp
  have O4 : OnW W b m w2.heap.size w4 (.slice (some ⟨w2.heap.size, 0, none⟩) 0 0) (.slice (some ⟨w2.heap.size + 1, 0, none⟩) 0 0) (bndW L) [] [] [] := by
    refine ⟨⟨fun j => NB b m j ∧ j ≠ w2.heap.size ∧ j ≠ w2.heap.size + 1, ⟨fun j hj => hj.1, fun j hj => ⟨⟨by omega, by omega⟩, by omega, by omega⟩⟩, ?_, fun g e hh => hh.2.1 (by simp [Value.ownBlock] at e; omega), fun g e hh => hh.2.2 (by simp [Value.ownBlock] at e; omega)⟩, hL3.below (mov_pc W) b4, hL4, fun g e e' => by simp [Value.ownBlock] at e e'; omega, below_and BW2 (Nat.le_refl _) b24, ⟨by omega, by omega, hlt2.1, hlt2.2⟩, fun p hp => (by cases hp), fun p hp => (by cases hp), b24.size⟩
    exact h2.mv b24.size (b24.block b hlt2.1) (b24.block m hlt2.2) (fun k hk hlt => ⟨b24.block k hlt, hk, by omega, by omega⟩)
  rw [← hww]
  clear hww hw3 hw4 hL3 hL4 b3 b4 e3 h2 BW2 b24 hs24
  generalize hB : w2.heap.size = B at *
  have hTV : ∃ at0 ct0, (Value.slice (some ⟨B, 0, none⟩) 0 0) = .slice at0 0 ct0 := ⟨_, _, rfl⟩
  clear hB
  go_wp2_with fail
  go_loopw [6, 7, 35] (fun tv dv j wr => ∃ (n : Nat) (low : Int) (kn : List (Int × PSl)) (tk dn : List PPrep), n ≤ ys.length ∧ tk.length ≤ n ∧ dn.length ≤ n ∧ j = .int .i64 n ∧ OnW W b m B wr tv dv low kn tk dn) (fun _ _ j _ => ys.length - (intOf j).toNat)
  case atStart => exact ⟨0, _, _, _, _, by omega, Nat.le_refl _, Nat.le_refl _, rfl, O4⟩
  case round =>
    clear O4 hTV
    obtain ⟨n, low, kn, tk, dn, hn, htl, hdl, rfl, hO⟩ := hrel
    obtain ⟨ta, tc, rfl⟩ := hO.tl.fmW
    obtain ⟨da, dc, rfl⟩ := hO.dl.fmW
    by_cases hnl : n < ys.length
    case neg =>
      go_wp2_with fail
      go_ret
      exact ⟨rfl, hO.bel⟩
    obtain ⟨⟨kd, k, ⟨b1, b2⟩, ⟨x1, x2, xo, xs⟩, ct⟩, hA⟩ : ∃ A, ys[n]? = some A := ⟨_, List.getElem?_eq_getElem hnl⟩
    have hzA := hz _ (List.mem_of_getElem? hA)
    obtain ⟨bv, off, cap, hve, _, _, _, hbv, hat⟩ := hvs.at (by omega)
    obtain ⟨rvv, _, hrng, o, s, c, rfl, t1, t2, t3⟩ := hat n _ hA
    injection hve with hv1 hv2 hv3
    subst hv1 hv3
    simp only at t1 t2 t3 hrng
    clear hv2 hat hA
    have hrng := rangeAt_block hrng (hO.bel.block bv hbv)
    have hrow0 := Row.new wr 41 [.int .i64 0, .int .i64 0, .int .i64 0, .int .i64 0, .int .i64 0, .int .i64 0, .slice none 0 0, .slice none 0 0, .slice none 0 0]
    have hon : ∀ u ∈ [Value.int .i64 kd, .int .i64 k, .int .i64 b1, .int .i64 b2, .int .i64 x1, .int .i64 x2, o, s, c], u.oneCell' = true := one_Ac t1.one t2.one t3.one
    go_upto_region 11 with (first
      | (refine wpList_load_mid rfl _ _ rfl bv (off + n * 9) rfl [.int .i64 kd, .int .i64 k, .int .i64 b1, .int .i64 b2, .int .i64 x1, .int .i64 x2, o, s, c] _ hrng Try.underlying41 rfl (by kernel_rfl) ?_)
      | (refine wl_store rfl _ _ _ rfl wr.heap.size [.int .i64 kd, .int .i64 k, .int .i64 b1, .int .i64 b2, .int .i64 x1, .int .i64 x2, o, s, c] rfl rfl _ _ hrow0 rfl (by kernel_rfl) hon ?_; intro w8 rA g8))
    have b8 : Below wr.heap.size wr w8 := (below_alloc wr (.cells ([.int .i64 0, .int .i64 0, .int .i64 0, .int .i64 0, .int .i64 0, .int .i64 0, .slice none 0 0, .slice none 0 0, .slice none 0 0] : List Value).toArray 41)).trans (grown_below g8 (by simp) (fun k hk => by cases hk; exact Nat.le_refl _))
    have rA := rA.out
    have hO8 := hO.below b8
    have htc : ∀ g, (Value.slice ta tk.length tc).ownBlock = some g → g ≠ wr.heap.size := fun g e => by have := hO.tl.lt g e; omega
    have hdc : ∀ g, (Value.slice da dn.length dc).ownBlock = some g → g ≠ wr.heap.size := fun g e => by have := hO.dl.lt g e; omega
    obtain ⟨G, hgd, hwd, htG, hdG⟩ := hO8.wd
    have hcb : wr.heap.size ≠ b ∧ wr.heap.size ≠ m := by
      obtain ⟨G', hgd', hwd', _, _⟩ := hO.wd
      have := hwd'.lt
      omega
    obtain ⟨cA, hcA⟩ : ∃ c, c = wr.heap.size := ⟨_, rfl⟩
    rw [← hcA] at rA hcb htc hdc ⊢
    clear hrng hrow0 g8 hon hcA hO b8
    have hk := hzA.2
    have hzP := hzA.1
    have HU := (show Hid (∀ u, Below w8.heap.size w8 u → Row u cA 41 [.int .i64 kd, .int .i64 k, .int .i64 b1, .int .i64 b2, .int .i64 x1, .int .i64 x2, o, s, c]) from fun u hu => rA.below hu)
    have HDO := (show Hid (∀ (G' : Nat → Prop) u cs, Below w8.heap.size w8 u → Gd G' b m u.heap.size → Wnd G' u b m low kn → RDw (fun j => j < W.heap.size) u cs (bndW L) (List.replicate 16 s0) → Calls Try.prog 9 #[.pointer (some ⟨b, 0, none⟩), .agg cs.toArray, .agg #[.int .i64 kd, .int .i64 k, .int .i64 b1, .int .i64 b2, .int .i64 x1, .int .i64 x2, o, s, c]] u fun e w' => ∃ (cs' : List Value) (er : Int), cs'.length = 369 ∧ (∀ v ∈ cs', v.oneCell' = true) ∧ e = .returned (.tuple #[.agg cs'.toArray, .int .i64 (stA low kn (kd, k, (b1, b2), (x1, x2, xo, xs), ct)).2, .int .i64 er]) ∧ Wnd G' w' b m (stA low kn (kd, k, (b1, b2), (x1, x2, xo, xs), ct)).1.1 (stA low kn (kd, k, (b1, b2), (x1, x2, xo, xs), ct)).1.2 ∧ Gw u w' b m) from fun G' u cs hu hgG hwG hD => by
      have hmv : Mv (fun j => j < W.heap.size) (fun j => j < W.heap.size) W u := fun j hj hlt => ⟨(below_and hO8.bel (Nat.le_refl _) hu).block j hlt, hj⟩
      have hwu := (below_and hO8.bel (Nat.le_refl _) hu).size
      refine (do_any (G := G') (GD := fun j => j < W.heap.size) u hwG hgG cs _ _ hD (fun j hj => ⟨⟨by have := hO8.hb; omega, by have := hO8.hb; omega⟩, by omega⟩) [.int .i64 kd, .int .i64 k, .int .i64 b1, .int .i64 b2, .int .i64 x1, .int .i64 x2, o, s, c] (kd, k, (b1, b2), (x1, x2, xo, xs), ct) ⟨_, _, _, rfl, (t1.lowW).mv hmv, (t2.lowW).mv hmv, (t3.lowW).mv mov_vote hwu hmv⟩ hk hzP).mono ?_
      rintro e w' ⟨cs', rfl, h1, h2, h3⟩
      exact ⟨cs', _, h1.len, h1.one, rfl, h2, h3⟩)
    have HNEW := (show Hid (∀ u, Calls Try.prog 8 #[.int .i64 L] u fun e w' => ∃ cs, e = .returned (.agg cs.toArray) ∧ (∀ G u, RDw G u cs (bndW L) (List.replicate 16 s0)) ∧ Below u.heap.size u w') from fun u => refNewW_any u L)
    obtain ⟨zc, hzl, hzv⟩ := zW_ex
    have hdq : Below w8.heap.size w8 w8.drew := ⟨rfl, rfl, rfl, Nat.le_refl _, fun _ _ => rfl⟩
    try go_simp
    go_cut [10, 11, 12] from 36 to 124 (fun s10 s11 s12 wx => s11 = .int .i64 (stA low kn (kd, k, (b1, b2), (x1, x2, xo, xs), ct)).2 ∧ OnW W b m B wx (.slice ta tk.length tc) (.slice da dn.length dc) (stA low kn (kd, k, (b1, b2), (x1, x2, xo, xs), ct)).1.1 (stA low kn (kd, k, (b1, b2), (x1, x2, xo, xs), ct)).1.2 tk dn ∧ Row wx cA 41 [.int .i64 kd, .int .i64 k, .int .i64 b1, .int .i64 b2, .int .i64 x1, .int .i64 x2, o, s, c])
    case first =>
      refine wp_region_held_drew (S := fun u => Row u cA 41 [.int .i64 kd, .int .i64 k, .int .i64 b1, .int .i64 b2, .int .i64 x1, .int .i64 x2, o, s, c]) (by kernel_rfl) (HU.out _ hdq) (fun hHeld => ?_)
      clear hHeld
      have S0 := HU.out _ hdq
      have B0 := hdq
      clear hdq
      refine wpAnyH_take (i := 0) (v := .pointer (some ⟨b, 0, none⟩)) rfl (by kernel_rfl) (by kernel_rfl) (by kernel_rfl) (fun _ _ _ h => h) (Or.inl ⟨by kernel_rfl, fun u hSu => by go_simp⟩) S0 ?_
      simp only [Act.put, List.setIfInBounds_toArray, List.set_cons_zero, List.set_cons_succ]
      refine wpAnyH_take (i := 1) (v := .int .i64 L) rfl (by kernel_rfl) (by kernel_rfl) (by kernel_rfl) (fun _ _ _ h => h) (Or.inl ⟨by kernel_rfl, fun u hSu => by go_simp⟩) S0 ?_
      simp only [Act.put, List.setIfInBounds_toArray, List.set_cons_zero, List.set_cons_succ]
      refine wpAnyH_take (i := 3) (v := .agg [.int .i64 kd, .int .i64 k, .int .i64 b1, .int .i64 b2, .int .i64 x1, .int .i64 x2, o, s, c].toArray) rfl (by kernel_rfl) (by kernel_rfl) (by kernel_rfl) (fun _ _ _ h => h) (yieldsIf_load_mid (by kernel_rfl) _ _ rfl cA 0 (by go_simp) [.int .i64 kd, .int .i64 k, .int .i64 b1, .int .i64 b2, .int .i64 x1, .int .i64 x2, o, s, c] _ (fun u hu => hu.rng) Try.underlying41 rfl (by kernel_rfl)) S0 ?_
      simp only [Act.put, List.setIfInBounds_toArray, List.set_cons_zero, List.set_cons_succ]
      refine wpAnyH_ready (rs := [2, 9]) (by kernel_rfl) (by simp) ?_
      refine AllReadyH.cons (o := _) rfl (fun K hK => ?_) ?_
      · go_simp
        refine (HNEW.out w8.drew).mono ?_
        rintro e u1 ⟨cs, rfl, hDN, bb1⟩
        have B1 : Below w8.heap.size w8 u1 := below_and B0 (Nat.le_refl _) bb1
        have S1 := S0.below bb1
        try go_simp
        refine hK.out _ _ S1 (fun hHeld => ?_)
        clear hK K hHeld
        refine wpAnyH_ready (rs := [4, 9]) (by kernel_rfl) (by simp) ?_
        refine AllReadyH.cons (o := _) rfl (fun K hK => ?_) ?_
        · go_simp
          refine (HDO.out G u1 cs B1 (hgd.up B1.size) (hwd.below B1) (hDN _ _)).mono ?_
          rintro e u2 ⟨cs', er, hcl, hc1, rfl, hW2, hGG⟩
          have hG2 : Gw w8 u2 b m := (Gw.bel B1).trans hGG
          have S2 := S1.gw hGG hcb.1 hcb.2
          have hinf : (Try.prog.info? 36).map (·.size) = some cs'.length := by rw [hcl]; exact Try.inf36
          try go_simp
          refine hK.out _ _ S2 (fun hHeld => ?_)
          clear hK K hHeld
          refine wpAnyH_take (i := 5) (v := .tuple #[.agg cs'.toArray, .int .i64 (stA low kn (kd, k, (b1, b2), (x1, x2, xo, xs), ct)).2, .int .i64 er]) rfl (by kernel_rfl) (by kernel_rfl) (by kernel_rfl) (fun _ _ _ h => h) (Or.inl ⟨by kernel_rfl, fun u hSu => by go_simp⟩) S2 ?_
          simp only [Act.put, List.setIfInBounds_toArray, List.set_cons_zero, List.set_cons_succ]
          refine wpAnyH_take (i := 6) (v := .agg cs'.toArray) rfl (by kernel_rfl) (by kernel_rfl) (by kernel_rfl) (fun _ _ _ h => h) (Or.inl ⟨by kernel_rfl, fun u hSu => by go_simp⟩) S2 ?_
          simp only [Act.put, List.setIfInBounds_toArray, List.set_cons_zero, List.set_cons_succ]
          refine wpAnyH_take (i := 7) (v := .int .i64 (stA low kn (kd, k, (b1, b2), (x1, x2, xo, xs), ct)).2) rfl (by kernel_rfl) (by kernel_rfl) (by kernel_rfl) (fun _ _ _ h => h) (Or.inl ⟨by kernel_rfl, fun u hSu => by go_simp⟩) S2 ?_
          simp only [Act.put, List.setIfInBounds_toArray, List.set_cons_zero, List.set_cons_succ]
          refine wpAnyH_take (i := 8) (v := .int .i64 er) rfl (by kernel_rfl) (by kernel_rfl) (by kernel_rfl) (fun _ _ _ h => h) (Or.inl ⟨by kernel_rfl, fun u hSu => by go_simp⟩) S2 ?_
          simp only [Act.put, List.setIfInBounds_toArray, List.set_cons_zero, List.set_cons_succ]
          refine wpAnyH_ready (rs := [9]) (by kernel_rfl) (by simp) ?_
          refine AllReadyH.moreW (wpOp_allocW rfl rfl _ rfl (some 10) rfl zc (hzv _) (fun u3 bx rX bb3 lx hx => ⟨S2.below bb3, ?_⟩)) AllReadyH.nil
          have S3 := S2.below bb3
          have hW3 : Wnd (fun j => G j ∧ j ≠ bx) u3 b m (stA low kn (kd, k, (b1, b2), (x1, x2, xo, xs), ct)).1.1 (stA low kn (kd, k, (b1, b2), (x1, x2, xo, xs), ct)).1.2 := hW2.mv bb3.size (bb3.block b hW2.lt.1) (bb3.block m hW2.lt.2) (fun k hk hlt => ⟨bb3.block k hlt, hk, by omega⟩)
          have hG3 := hG2.trans (Gw.bel bb3)
          have lx8 : w8.heap.size ≤ bx := Nat.le_trans hG2.size lx
          simp only [Act.put, List.setIfInBounds_toArray, List.set_cons_zero, List.set_cons_succ]
          refine wpAnyH_ready (rs := [10]) (by kernel_rfl) (by simp) ?_
          refine AllReadyH.moreW (wpOp_storeW rfl rfl _ _ _ rfl rfl bx cs' rfl rfl _ _ rX (by rw [hzl, hcl]) hinf hc1 (fun u4 rX2 gx => ⟨S3.grown gx (fun e => by have := Option.some.inj e; have := rA.lt; omega), ?_⟩)) AllReadyH.nil
          have S4 := S3.grown gx (fun e => by have := Option.some.inj e; have := rA.lt; omega)
          have hG4 := hG3.box gx lx8
          have hbm := hwd.lt
          have hW4 : Wnd (fun j => G j ∧ j ≠ bx) u4 b m (stA low kn (kd, k, (b1, b2), (x1, x2, xo, xs), ct)).1.1 (stA low kn (kd, k, (b1, b2), (x1, x2, xo, xs), ct)).1.2 := hW3.mv gx.size (gx.block b hW3.lt.1 (fun e => by have := Option.some.inj e; omega)) (gx.block m hW3.lt.2 (fun e => by have := Option.some.inj e; omega)) (Mv.boxG gx (fun hh => hh.2 rfl))
          refine wpAnyH_take (i := 11) (v := .int .i64 (stA low kn (kd, k, (b1, b2), (x1, x2, xo, xs), ct)).2) rfl (by kernel_rfl) (by kernel_rfl) (by kernel_rfl) (fun _ _ _ h => h) (Or.inl ⟨by kernel_rfl, fun u hSu => by go_simp⟩) S4 ?_
          simp only [Act.put, List.setIfInBounds_toArray, List.set_cons_zero, List.set_cons_succ]
          refine wpAnyH_take (i := 12) (v := .int .i64 er) rfl (by kernel_rfl) (by kernel_rfl) (by kernel_rfl) (fun _ _ _ h => h) (Or.inl ⟨by kernel_rfl, fun u hSu => by go_simp⟩) S4 ?_
          simp only [Act.put, List.setIfInBounds_toArray, List.set_cons_zero, List.set_cons_succ]
          refine wpAnyH_done (by kernel_rfl) ?_ _
          go_wp2_with fail
          go_meet
          have hxl := rX2.lt
          exact ⟨rfl, hO8.act (G := fun j => G j ∧ j ≠ bx) ⟨fun j hj => hgd.nb j hj.1, fun j hj => ⟨hgd.fr j (by have := hG4.size; omega), by omega⟩⟩ (fun g e hh => htG g e hh.1) (fun g e hh => hdG g e hh.1) _ hW4 hG4, S4⟩
        refine AllReadyH.moreW (wpOp_allocW rfl rfl _ rfl (some 10) rfl zc (hzv _) (fun u2 bx rX bb2 lx hx => ⟨S1.below bb2, ?_⟩)) AllReadyH.nil
        have S2 := S1.below bb2
        have B2 : Below w8.heap.size w8 u2 := below_and B1 (Nat.le_refl _) bb2
        have lx8 : w8.heap.size ≤ bx := Nat.le_trans B1.size lx
        simp only [Act.put, List.setIfInBounds_toArray, List.set_cons_zero, List.set_cons_succ]
        refine wpAnyH_ready (rs := [4]) (by kernel_rfl) (by simp) ?_
        refine AllReadyH.cons (o := _) rfl (fun K hK => ?_) AllReadyH.nil
        go_simp
        have hz2 := rX.lt
        have hwG : Wnd (fun j => G j ∧ j ≠ bx) u2 b m low kn := hwd.mv B2.size (B2.block b hwd.lt.1) (B2.block m hwd.lt.2) (fun k hk hlt => ⟨B2.block k hlt, hk, by omega⟩)
        have hgG : Gd (fun j => G j ∧ j ≠ bx) b m u2.heap.size := ⟨fun j hj => hgd.nb j hj.1, fun j hj => ⟨hgd.fr j (by have := B2.size; omega), by omega⟩⟩
        refine (HDO.out (fun j => G j ∧ j ≠ bx) u2 cs B2 hgG hwG (hDN _ _)).mono ?_
        rintro e u3 ⟨cs', er, hcl, hc1, rfl, hW3, hGG⟩
        have hG3 : Gw w8 u3 b m := (Gw.bel B2).trans hGG
        have S3 := S2.gw hGG hcb.1 hcb.2
        have rX := rX.gw hGG (by have := hwd.lt; omega) (by have := hwd.lt; omega)
        have hinf : (Try.prog.info? 36).map (·.size) = some cs'.length := by rw [hcl]; exact Try.inf36
        try go_simp
        refine hK.out _ _ S3 (fun hHeld => ?_)
        clear hK K hHeld
        refine wpAnyH_take (i := 5) (v := .tuple #[.agg cs'.toArray, .int .i64 (stA low kn (kd, k, (b1, b2), (x1, x2, xo, xs), ct)).2, .int .i64 er]) rfl (by kernel_rfl) (by kernel_rfl) (by kernel_rfl) (fun _ _ _ h => h) (Or.inl ⟨by kernel_rfl, fun u hSu => by go_simp⟩) S3 ?_
        simp only [Act.put, List.setIfInBounds_toArray, List.set_cons_zero, List.set_cons_succ]
        refine wpAnyH_take (i := 6) (v := .agg cs'.toArray) rfl (by kernel_rfl) (by kernel_rfl) (by kernel_rfl) (fun _ _ _ h => h) (Or.inl ⟨by kernel_rfl, fun u hSu => by go_simp⟩) S3 ?_
        simp only [Act.put, List.setIfInBounds_toArray, List.set_cons_zero, List.set_cons_succ]
        refine wpAnyH_take (i := 7) (v := .int .i64 (stA low kn (kd, k, (b1, b2), (x1, x2, xo, xs), ct)).2) rfl (by kernel_rfl) (by kernel_rfl) (by kernel_rfl) (fun _ _ _ h => h) (Or.inl ⟨by kernel_rfl, fun u hSu => by go_simp⟩) S3 ?_
        simp only [Act.put, List.setIfInBounds_toArray, List.set_cons_zero, List.set_cons_succ]
        refine wpAnyH_take (i := 8) (v := .int .i64 er) rfl (by kernel_rfl) (by kernel_rfl) (by kernel_rfl) (fun _ _ _ h => h) (Or.inl ⟨by kernel_rfl, fun u hSu => by go_simp⟩) S3 ?_
        simp only [Act.put, List.setIfInBounds_toArray, List.set_cons_zero, List.set_cons_succ]
        refine wpAnyH_ready (rs := [10]) (by kernel_rfl) (by simp) ?_
        refine AllReadyH.moreW (wpOp_storeW rfl rfl _ _ _ rfl rfl bx cs' rfl rfl _ _ rX (by rw [hzl, hcl]) hinf hc1 (fun u4 rX2 gx => ⟨S3.grown gx (fun e => by have := Option.some.inj e; have := rA.lt; omega), ?_⟩)) AllReadyH.nil
        have S4 := S3.grown gx (fun e => by have := Option.some.inj e; have := rA.lt; omega)
        have hG4 := hG3.box gx lx8
        have hbm := hwd.lt
        have hW4 : Wnd (fun j => G j ∧ j ≠ bx) u4 b m (stA low kn (kd, k, (b1, b2), (x1, x2, xo, xs), ct)).1.1 (stA low kn (kd, k, (b1, b2), (x1, x2, xo, xs), ct)).1.2 := hW3.mv gx.size (gx.block b hW3.lt.1 (fun e => by have := Option.some.inj e; omega)) (gx.block m hW3.lt.2 (fun e => by have := Option.some.inj e; omega)) (Mv.boxG gx (fun hh => hh.2 rfl))
        refine wpAnyH_take (i := 11) (v := .int .i64 (stA low kn (kd, k, (b1, b2), (x1, x2, xo, xs), ct)).2) rfl (by kernel_rfl) (by kernel_rfl) (by kernel_rfl) (fun _ _ _ h => h) (Or.inl ⟨by kernel_rfl, fun u hSu => by go_simp⟩) S4 ?_
        simp only [Act.put, List.setIfInBounds_toArray, List.set_cons_zero, List.set_cons_succ]
        refine wpAnyH_take (i := 12) (v := .int .i64 er) rfl (by kernel_rfl) (by kernel_rfl) (by kernel_rfl) (fun _ _ _ h => h) (Or.inl ⟨by kernel_rfl, fun u hSu => by go_simp⟩) S4 ?_
        simp only [Act.put, List.setIfInBounds_toArray, List.set_cons_zero, List.set_cons_succ]
        refine wpAnyH_done (by kernel_rfl) ?_ _
        go_wp2_with fail
        go_meet
        have hxl := rX2.lt
        exact ⟨rfl, hO8.act (G := fun j => G j ∧ j ≠ bx) ⟨fun j hj => hgd.nb j hj.1, fun j hj => ⟨hgd.fr j (by have := hG4.size; omega), by omega⟩⟩ (fun g e hh => htG g e hh.1) (fun g e hh => hdG g e hh.1) _ hW4 hG4, S4⟩
      refine AllReadyH.moreW (wpOp_allocW rfl rfl _ rfl (some 10) rfl zc (hzv _) (fun u1 bx rX bb1 lx hx => ⟨S0.below bb1, ?_⟩)) AllReadyH.nil
      have S1 := S0.below bb1
      have B1 : Below w8.heap.size w8 u1 := below_and B0 (Nat.le_refl _) bb1
      have lx8 : w8.heap.size ≤ bx := Nat.le_trans B0.size lx
      simp only [Act.put, List.setIfInBounds_toArray, List.set_cons_zero, List.set_cons_succ]
      refine wpAnyH_ready (rs := [2]) (by kernel_rfl) (by simp) ?_
      refine AllReadyH.cons (o := _) rfl (fun K hK => ?_) AllReadyH.nil
      go_simp
      refine (HNEW.out u1).mono ?_
      rintro e u2 ⟨cs, rfl, hDN, bb2⟩
      have B2 : Below w8.heap.size w8 u2 := below_and B1 (Nat.le_refl _) bb2
      have S2 := S1.below bb2
      have rX := rX.below bb2
      try go_simp
      refine hK.out _ _ S2 (fun hHeld => ?_)
      clear hK K hHeld
      refine wpAnyH_ready (rs := [4]) (by kernel_rfl) (by simp) ?_
      refine AllReadyH.cons (o := _) rfl (fun K hK => ?_) AllReadyH.nil
      go_simp
      have hz2 := rX.lt
      have hwG : Wnd (fun j => G j ∧ j ≠ bx) u2 b m low kn := hwd.mv B2.size (B2.block b hwd.lt.1) (B2.block m hwd.lt.2) (fun k hk hlt => ⟨B2.block k hlt, hk, by omega⟩)
      have hgG : Gd (fun j => G j ∧ j ≠ bx) b m u2.heap.size := ⟨fun j hj => hgd.nb j hj.1, fun j hj => ⟨hgd.fr j (by have := B2.size; omega), by omega⟩⟩
      refine (HDO.out (fun j => G j ∧ j ≠ bx) u2 cs B2 hgG hwG (hDN _ _)).mono ?_
      rintro e u3 ⟨cs', er, hcl, hc1, rfl, hW3, hGG⟩
      have hG3 : Gw w8 u3 b m := (Gw.bel B2).trans hGG
      have S3 := S2.gw hGG hcb.1 hcb.2
      have rX := rX.gw hGG (by have := hwd.lt; omega) (by have := hwd.lt; omega)
      have hinf : (Try.prog.info? 36).map (·.size) = some cs'.length := by rw [hcl]; exact Try.inf36
      try go_simp
      refine hK.out _ _ S3 (fun hHeld => ?_)
      clear hK K hHeld
      refine wpAnyH_take (i := 5) (v := .tuple #[.agg cs'.toArray, .int .i64 (stA low kn (kd, k, (b1, b2), (x1, x2, xo, xs), ct)).2, .int .i64 er]) rfl (by kernel_rfl) (by kernel_rfl) (by kernel_rfl) (fun _ _ _ h => h) (Or.inl ⟨by kernel_rfl, fun u hSu => by go_simp⟩) S3 ?_
      simp only [Act.put, List.setIfInBounds_toArray, List.set_cons_zero, List.set_cons_succ]
      refine wpAnyH_take (i := 6) (v := .agg cs'.toArray) rfl (by kernel_rfl) (by kernel_rfl) (by kernel_rfl) (fun _ _ _ h => h) (Or.inl ⟨by kernel_rfl, fun u hSu => by go_simp⟩) S3 ?_
      simp only [Act.put, List.setIfInBounds_toArray, List.set_cons_zero, List.set_cons_succ]
      refine wpAnyH_take (i := 7) (v := .int .i64 (stA low kn (kd, k, (b1, b2), (x1, x2, xo, xs), ct)).2) rfl (by kernel_rfl) (by kernel_rfl) (by kernel_rfl) (fun _ _ _ h => h) (Or.inl ⟨by kernel_rfl, fun u hSu => by go_simp⟩) S3 ?_
      simp only [Act.put, List.setIfInBounds_toArray, List.set_cons_zero, List.set_cons_succ]
      refine wpAnyH_take (i := 8) (v := .int .i64 er) rfl (by kernel_rfl) (by kernel_rfl) (by kernel_rfl) (fun _ _ _ h => h) (Or.inl ⟨by kernel_rfl, fun u hSu => by go_simp⟩) S3 ?_
      simp only [Act.put, List.setIfInBounds_toArray, List.set_cons_zero, List.set_cons_succ]
      refine wpAnyH_ready (rs := [10]) (by kernel_rfl) (by simp) ?_
      refine AllReadyH.moreW (wpOp_storeW rfl rfl _ _ _ rfl rfl bx cs' rfl rfl _ _ rX (by rw [hzl, hcl]) hinf hc1 (fun u4 rX2 gx => ⟨S3.grown gx (fun e => by have := Option.some.inj e; have := rA.lt; omega), ?_⟩)) AllReadyH.nil
      have S4 := S3.grown gx (fun e => by have := Option.some.inj e; have := rA.lt; omega)
      have hG4 := hG3.box gx lx8
      have hbm := hwd.lt
      have hW4 : Wnd (fun j => G j ∧ j ≠ bx) u4 b m (stA low kn (kd, k, (b1, b2), (x1, x2, xo, xs), ct)).1.1 (stA low kn (kd, k, (b1, b2), (x1, x2, xo, xs), ct)).1.2 := hW3.mv gx.size (gx.block b hW3.lt.1 (fun e => by have := Option.some.inj e; omega)) (gx.block m hW3.lt.2 (fun e => by have := Option.some.inj e; omega)) (Mv.boxG gx (fun hh => hh.2 rfl))
      refine wpAnyH_take (i := 11) (v := .int .i64 (stA low kn (kd, k, (b1, b2), (x1, x2, xo, xs), ct)).2) rfl (by kernel_rfl) (by kernel_rfl) (by kernel_rfl) (fun _ _ _ h => h) (Or.inl ⟨by kernel_rfl, fun u hSu => by go_simp⟩) S4 ?_
      simp only [Act.put, List.setIfInBounds_toArray, List.set_cons_zero, List.set_cons_succ]
      refine wpAnyH_take (i := 12) (v := .int .i64 er) rfl (by kernel_rfl) (by kernel_rfl) (by kernel_rfl) (fun _ _ _ h => h) (Or.inl ⟨by kernel_rfl, fun u hSu => by go_simp⟩) S4 ?_
      simp only [Act.put, List.setIfInBounds_toArray, List.set_cons_zero, List.set_cons_succ]
      refine wpAnyH_done (by kernel_rfl) ?_ _
      go_wp2_with fail
      go_meet
      have hxl := rX2.lt
      exact ⟨rfl, hO8.act (G := fun j => G j ∧ j ≠ bx) ⟨fun j hj => hgd.nb j hj.1, fun j hj => ⟨hgd.fr j (by have := hG4.size; omega), by omega⟩⟩ (fun g e hh => htG g e hh.1) (fun g e hh => hdG g e hh.1) _ hW4 hG4, S4⟩
    case rest =>
      obtain ⟨rfl, hOc, rAc⟩ := hcut
      have HTC := (show Hid (∀ g, (Value.slice ta tk.length tc).ownBlock = some g → g ≠ cA) from htc)
      have HDC := (show Hid (∀ g, (Value.slice da dn.length dc).ownBlock = some g → g ≠ cA) from hdc)
      have HTF := (show Hid (∀ p ∈ tk, tkOk low kn p) from hO8.tf)
      have HDF := (show Hid (∀ p ∈ dn, dnOk low kn p) from hO8.df)
      clear HU HDO HNEW hwd hgd htG hdG hO8 rA hzv hzl hk hzP htc hdc
      have kA0 := rAc.cell (j := 0) rfl
      have HT := (show Hid (RT Any W o xo ∧ RT Any W s xs ∧ RL RVote 2 Any W c ct) from ⟨t1, t2, t3⟩)
      have hone8 : ∀ u ∈ [Value.int .i64 k, .int .i64 b1, .int .i64 b2, .int .i64 x1, .int .i64 x2, o, s, c], u.oneCell' = true := one_Pc t1.one t2.one t3.one
      clear t1 t2 t3
      by_cases he : (stA low kn (kd, k, (b1, b2), (x1, x2, xo, xs), ct)).2 = 0
      case neg =>
        have d1 : ((stA low kn (kd, k, (b1, b2), (x1, x2, xo, xs), ct)).2 != 0) = true := by simp [he]
        clear hone8
        go_wp2_with fail
        go_roundw
        case rel => exact ⟨n + 1, _, _, tk, dn, by omega, by omega, by omega, by go_num, hOc⟩
        case measure => simp [intOf]; omega
      have d1 : ((stA low kn (kd, k, (b1, b2), (x1, x2, xo, xs), ct)).2 != 0) = false := by simp [he]
      have HE := (show Hid ((stA low kn (kd, k, (b1, b2), (x1, x2, xo, xs), ct)).2 = 0) from he)
      clear he
      have hBc := hOc.sz
      by_cases k0 : kd = 0
      · subst k0
        have hav := act_vote (a := (0, k, (b1, b2), (x1, x2, xo, xs), ct)) rfl HE.out
        have HAV := (show Hid (tkOk _ _ _) from hav.1)
        have HV := (show Hid (∀ p ∈ tk, p.1 = k → notUp p.2.1 (b1, b2) p.2.2.1 (x1, x2, xo, xs)) from fun p hp hk => hav.2 p (HTF.out p hp) hk)
        clear hav
        go_wp2_with fail
        go_loopw [55] (fun j wr => ∃ q : Nat, q ≤ tk.length ∧ j = .int .i64 q ∧ Below wc.heap.size wc wr) (fun j _ => tk.length - (intOf j).toNat)
        case atStart => exact ⟨0, by omega, rfl, Below.refl _ _⟩
        case round =>
          obtain ⟨q, hq, rfl, hB2⟩ := hrel
          have rA2 := rAc.below hB2
          clear kA0
          by_cases hql : q < tk.length
          · obtain ⟨p, hp⟩ : ∃ p, tk[q]? = some p := ⟨_, List.getElem?_eq_getElem hql⟩
            obtain ⟨g, off, cap, po, ps, pc, hve, _, _, hg, hrng, p1, p2, p3⟩ := hOc.tl.atPc hp
            have hpm := List.mem_of_getElem? hp
            injection hve with hv1 hv2 hv3
            subst hv1 hv3
            clear hv2 hp
            have hrng := rangeAt_block hrng (hB2.block g hg)
            have hrow2 := Row.new wr 39 [.int .i64 0, .int .i64 0, .int .i64 0, .int .i64 0, .int .i64 0, .slice none 0 0, .slice none 0 0, .slice none 0 0]
            have hon2 : ∀ u ∈ [Value.int .i64 p.1, .int .i64 p.2.1.1, .int .i64 p.2.1.2, .int .i64 p.2.2.1.1, .int .i64 p.2.2.1.2.1, po, ps, pc], u.oneCell' = true := one_Pc p1.one p2.one p3.one
            go_upto_region 17 with (first
              | (refine wpList_load_mid rfl _ _ rfl g (off + q * 8) rfl [.int .i64 p.1, .int .i64 p.2.1.1, .int .i64 p.2.1.2, .int .i64 p.2.2.1.1, .int .i64 p.2.2.1.2.1, po, ps, pc] _ hrng Try.underlying39 rfl (by kernel_rfl) ?_)
              | (refine wl_store rfl _ _ _ rfl wr.heap.size [.int .i64 p.1, .int .i64 p.2.1.1, .int .i64 p.2.1.2, .int .i64 p.2.2.1.1, .int .i64 p.2.2.1.2.1, po, ps, pc] rfl rfl _ _ hrow2 rfl (by kernel_rfl) hon2 ?_; intro w9 r9 g9))
            have b9 : Below wr.heap.size wr w9 := (below_alloc wr (.cells ([.int .i64 0, .int .i64 0, .int .i64 0, .int .i64 0, .int .i64 0, .slice none 0 0, .slice none 0 0, .slice none 0 0] : List Value).toArray 39)).trans (grown_below g9 (by simp) (fun k hk => by cases hk; exact Nat.le_refl _))
            have r9 := r9.out
            have rA9 := rA2.below b9
            have B9 := below_and hB2 (Nat.le_refl _) b9
            obtain ⟨c2, hc2⟩ : ∃ c, c = wr.heap.size := ⟨_, rfl⟩
            rw [← hc2] at r9 ⊢
            clear hrng hrow2 g9 hon2 hc2 rA2 b9 hB2
            have hC := compareB_any w9 p.2.1.1 p.2.1.2 b1 b2
            have HVp := HV.out p hpm
            have hBW := hOc.bel
            generalize hcc : cmp2 p.2.1.1 p.2.1.2 b1 b2 = cc at *
            go_upto_region 18 with (first
              | (refine wl_part rfl _ _ rfl c2 1 rfl _ _ r9 [.int .i64 p.2.1.1, .int .i64 p.2.1.2] rfl _ Try.underlying27 rfl (by kernel_rfl) ?_)
              | (refine wl_part rfl _ _ rfl cA 2 rfl _ _ rA9 [.int .i64 b1, .int .i64 b2] rfl _ Try.underlying27 rfl (by kernel_rfl) ?_)
              | (go_at_call 21; refine hC.mono ?_; rintro e wa ⟨rfl, ba⟩))
            have r9 := r9.below ba
            have rA9 := rA9.below ba
            have B9 := below_and B9 (Nat.le_refl _) ba
            clear hC ba
            have z0 := r9.cell (j := 0) rfl
            have y1 := rA9.cell (j := 1) rfl
            by_cases hpk : p.1 = k
            · have d2 : (p.1 == k) = true := by simp [hpk]
              have BW9 := below_and hBW (Nat.le_refl _) B9
              have hSR := sameReq_any wa [.int .i64 p.2.2.1.1, .int .i64 p.2.2.1.2.1, po, ps] [.int .i64 x1, .int .i64 x2, o, s] p.2.2.1 (x1, x2, xo, xs) ⟨_, _, rfl, p1.mv (Mv.below BW9), p2.mv (Mv.below BW9)⟩ ⟨_, _, rfl, HT.out.1.mv (Mv.below BW9), HT.out.2.1.mv (Mv.below BW9)⟩
              rcases HVp hpk with hlt | ⟨hz0, hrq⟩
              · have hlt : cc < 0 := by rw [← hcc]; exact hlt
                have d3 : decide (0 < cc) = false := by simp; omega
                have d4 : (cc == 0) = false := by simp; omega
                clear hcc HVp hpk hSR
                go_wp2_with fail
                go_roundw
                case rel => exact ⟨q + 1, by omega, by go_num, B9⟩
                case measure => simp [intOf]; omega
              · have hz0 : cc = 0 := by rw [← hcc]; exact hz0
                subst hz0
                rw [decide_eq_true hrq] at hSR
                clear hcc HVp hpk hrq
                go_wp2_with (first
                  | (refine wl_part_w (by rfl) _ _ rfl c2 3 rfl _ _ r9 [.int .i64 p.2.2.1.1, .int .i64 p.2.2.1.2.1, po, ps] rfl _ Try.underlying30 rfl (by kernel_rfl) ?_)
                  | (refine wl_part_w (by rfl) _ _ rfl cA 4 rfl _ _ rA9 [.int .i64 x1, .int .i64 x2, o, s] rfl _ Try.underlying30 rfl (by kernel_rfl) ?_)
                  | (go_at_call 22; refine hSR.mono ?_; rintro e wb ⟨rfl, bb⟩))
                go_roundw
                case rel => exact ⟨q + 1, by omega, by go_num, below_and B9 (Nat.le_refl _) bb⟩
                case measure => simp [intOf]; omega
            · have d2 : (p.1 == k) = false := by simp [hpk]
              clear HVp hpk
              go_wp2_with fail
              go_roundw
              case rel => exact ⟨q + 1, by omega, by go_num, B9⟩
              case measure => simp [intOf]; omega
          · have hOr := hOc.below hB2
            have hB2s := hB2.size
            have hLr := hOr.tl
            have hLl := hLr.lt
            have hBr : B ≤ wr.heap.size := Nat.le_trans hBc hB2s
            have hbnd : (tk.length + 1) * 112 ≤ 140737488355328 := by omega
            go_upto_region 22 with (first
              | (refine wl_part rfl _ _ rfl cA 1 rfl _ _ rA2 [.int .i64 k, .int .i64 b1, .int .i64 b2, .int .i64 x1, .int .i64 x2, o, s, c] rfl _ Try.underlying39 rfl (by kernel_rfl) ?_)
              | (at_builtin; go_loud (refine wl_pushS (mov_pc W) rfl _ _ _ rfl 39 8 112 _ Try.underlying54 Try.infPrepW rfl (by decide) B (.slice ta tk.length tc) tk rfl hLr [.int .i64 k, .int .i64 b1, .int .i64 b2, .int .i64 x1, .int .i64 x2, o, s, c] (k, (b1, b2), (x1, x2, xo, xs), ct) wr.heap.size ⟨o, s, c, rfl, HT.out.1, HT.out.2.1, HT.out.2.2⟩ rfl hone8 hBr hLl rfl hBr hbnd (by decide) ?_; intro v' w6 hL6 hg6 hS6)))
            have rA6 := rA2.grown hg6 (fun e => HTC.out cA e rfl)
            have kA0 := rA6.cell (j := 0) rfl
            clear hLl hLr hbnd hBr
            go_wp2_with fail
            go_roundw
            case rel => exact ⟨n + 1, _, _, tk ++ [(k, (b1, b2), (x1, x2, xo, xs), ct)], dn, by omega, by simp; omega, by omega, by go_num, hOr.pushT hL6 hg6 hS6 HAV.out⟩
            case measure => simp [intOf]; omega
      have d0 : (kd == 0) = false := by simp [k0]
      by_cases k2 : kd = 2
      · subst k2
        have hav := act_done (a := (2, k, (b1, b2), (x1, x2, xo, xs), ct)) rfl HE.out
        have HAV := (show Hid (dnOk _ _ _) from hav.1)
        have HW := (show Hid (∀ p ∈ dn, p.1 = k → p.2.2.1 = (x1, x2, xo, xs)) from fun p hp hk => hav.2 p (HDF.out p hp) hk)
        clear hav k0
        go_wp2_with fail
        go_loopw [99] (fun j wr => ∃ q : Nat, q ≤ dn.length ∧ j = .int .i64 q ∧ Below wc.heap.size wc wr) (fun j _ => dn.length - (intOf j).toNat)
        case atStart => exact ⟨0, by omega, rfl, Below.refl _ _⟩
        case round =>
          obtain ⟨q, hq, rfl, hB2⟩ := hrel
          have rA2 := rAc.below hB2
          clear kA0
          by_cases hql : q < dn.length
          · obtain ⟨p, hp⟩ : ∃ p, dn[q]? = some p := ⟨_, List.getElem?_eq_getElem hql⟩
            obtain ⟨g, off, cap, po, ps, pc, hve, _, _, hg, hrng, p1, p2, p3⟩ := hOc.dl.atPc hp
            have hpm := List.mem_of_getElem? hp
            injection hve with hv1 hv2 hv3
            subst hv1 hv3
            clear hv2 hp
            have hrng := rangeAt_block hrng (hB2.block g hg)
            have hrow2 := Row.new wr 39 [.int .i64 0, .int .i64 0, .int .i64 0, .int .i64 0, .int .i64 0, .slice none 0 0, .slice none 0 0, .slice none 0 0]
            have hon2 : ∀ u ∈ [Value.int .i64 p.1, .int .i64 p.2.1.1, .int .i64 p.2.1.2, .int .i64 p.2.2.1.1, .int .i64 p.2.2.1.2.1, po, ps, pc], u.oneCell' = true := one_Pc p1.one p2.one p3.one
            go_upto_region 26 with (first
              | (refine wpList_load_mid rfl _ _ rfl g (off + q * 8) rfl [.int .i64 p.1, .int .i64 p.2.1.1, .int .i64 p.2.1.2, .int .i64 p.2.2.1.1, .int .i64 p.2.2.1.2.1, po, ps, pc] _ hrng Try.underlying39 rfl (by kernel_rfl) ?_)
              | (refine wl_store rfl _ _ _ rfl wr.heap.size [.int .i64 p.1, .int .i64 p.2.1.1, .int .i64 p.2.1.2, .int .i64 p.2.2.1.1, .int .i64 p.2.2.1.2.1, po, ps, pc] rfl rfl _ _ hrow2 rfl (by kernel_rfl) hon2 ?_; intro w9 r9 g9))
            have b9 : Below wr.heap.size wr w9 := (below_alloc wr (.cells ([.int .i64 0, .int .i64 0, .int .i64 0, .int .i64 0, .int .i64 0, .slice none 0 0, .slice none 0 0, .slice none 0 0] : List Value).toArray 39)).trans (grown_below g9 (by simp) (fun k hk => by cases hk; exact Nat.le_refl _))
            have r9 := r9.out
            have rA9 := rA2.below b9
            have B9 := below_and hB2 (Nat.le_refl _) b9
            obtain ⟨c2, hc2⟩ : ∃ c, c = wr.heap.size := ⟨_, rfl⟩
            rw [← hc2] at r9 ⊢
            clear hrng hrow2 g9 hon2 hc2 rA2 b9 hB2
            have HWp := HW.out p hpm
            have hBW := hOc.bel
            have z0 := r9.cell (j := 0) rfl
            have y1 := rA9.cell (j := 1) rfl
            by_cases hpk : p.1 = k
            · have d2 : (p.1 == k) = true := by simp [hpk]
              have BW9 := below_and hBW (Nat.le_refl _) B9
              have hSR := sameReq_any w9 [.int .i64 p.2.2.1.1, .int .i64 p.2.2.1.2.1, po, ps] [.int .i64 x1, .int .i64 x2, o, s] p.2.2.1 (x1, x2, xo, xs) ⟨_, _, rfl, p1.mv (Mv.below BW9), p2.mv (Mv.below BW9)⟩ ⟨_, _, rfl, HT.out.1.mv (Mv.below BW9), HT.out.2.1.mv (Mv.below BW9)⟩
              rw [decide_eq_true (HWp hpk)] at hSR
              clear HWp hpk
              go_wp2_with (first
                | (refine wl_part_w (by rfl) _ _ rfl c2 3 rfl _ _ r9 [.int .i64 p.2.2.1.1, .int .i64 p.2.2.1.2.1, po, ps] rfl _ Try.underlying30 rfl (by kernel_rfl) ?_)
                | (refine wl_part_w (by rfl) _ _ rfl cA 4 rfl _ _ rA9 [.int .i64 x1, .int .i64 x2, o, s] rfl _ Try.underlying30 rfl (by kernel_rfl) ?_)
                | (go_at_call 22; refine hSR.mono ?_; rintro e wb ⟨rfl, bb⟩))
              go_roundw
              case rel => exact ⟨q + 1, by omega, by go_num, below_and B9 (Nat.le_refl _) bb⟩
              case measure => simp [intOf]; omega
            · have d2 : (p.1 == k) = false := by simp [hpk]
              clear HWp hpk
              go_wp2_with fail
              go_roundw
              case rel => exact ⟨q + 1, by omega, by go_num, B9⟩
              case measure => simp [intOf]; omega
          · have hOr := hOc.below hB2
            have hB2s := hB2.size
            have hLr := hOr.dl
            have hLl := hLr.lt
            have hBr : B ≤ wr.heap.size := Nat.le_trans hBc hB2s
            have hbnd : (dn.length + 1) * 112 ≤ 140737488355328 := by omega
            go_upto_region 30 with (first
              | (refine wl_part rfl _ _ rfl cA 1 rfl _ _ rA2 [.int .i64 k, .int .i64 b1, .int .i64 b2, .int .i64 x1, .int .i64 x2, o, s, c] rfl _ Try.underlying39 rfl (by kernel_rfl) ?_)
              | (at_builtin; go_loud (refine wl_pushS (mov_pc W) rfl _ _ _ rfl 39 8 112 _ Try.underlying54 Try.infPrepW rfl (by decide) B (.slice da dn.length dc) dn rfl hLr [.int .i64 k, .int .i64 b1, .int .i64 b2, .int .i64 x1, .int .i64 x2, o, s, c] (k, (b1, b2), (x1, x2, xo, xs), ct) wr.heap.size ⟨o, s, c, rfl, HT.out.1, HT.out.2.1, HT.out.2.2⟩ rfl hone8 hBr hLl rfl hBr hbnd (by decide) ?_; intro v' w6 hL6 hg6 hS6)))
            have rA6 := rA2.grown hg6 (fun e => HDC.out cA e rfl)
            have kA0 := rA6.cell (j := 0) rfl
            clear hLl hLr hbnd hBr
            go_wp2_with fail
            go_roundw
            case rel => exact ⟨n + 1, _, _, tk, dn ++ [(k, (b1, b2), (x1, x2, xo, xs), ct)], by omega, by omega, by simp; omega, by go_num, hOr.pushD hL6 hg6 hS6 HAV.out⟩
            case measure => simp [intOf]; omega
      have d2 : (kd == 2) = false := by simp [k2]
      clear hone8
      go_wp2_with fail
      go_roundw
      case rel => exact ⟨n + 1, _, _, tk, dn, by omega, by omega, by omega, by go_num, hOc⟩
      case measure => simp [intOf]; omega
end
end Go.Proofs.Ytjloehkolnjnhaa
