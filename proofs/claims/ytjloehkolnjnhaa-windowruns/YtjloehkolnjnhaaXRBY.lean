/- catenarylaw17.WindowRuns: its walk. Written by mk19r.py. -/
import Derived.Test.YtjloehkolnjnhaaXRBJ
import Derived.Test.YtjloehkolnjnhaaXRBL
import Derived.Test.YtjloehkolnjnhaaXRBM
import Derived.Test.YtjloehkolnjnhaaXRBN
import Derived.Test.YtjloehkolnjnhaaXRBO
import Derived.Test.YtjloehkolnjnhaaXRBV
import Derived.Test.YtjloehkolnjnhaaXRBW
import Derived.Test.YtjloehkolnjnhaaXRBX
import Derived.Test.YtjloehkolnjnhaaXRAY
import Derived.Test.YtjloehkolnjnhaaXRBD
import Derived.Test.YtjloehkolnjnhaaXRBU
import Derived.Deep.CutRange
import Derived.Deep.RegionHeld3
import Derived.Deep.MidRow
set_option linter.unusedSimpArgs false
set_option linter.unusedVariables false
namespace Go.Proofs.Ytjloehkolnjnhaa
section
open Go.RowKit Oct Kvl Bal
theorem do_any {G GD : Nat → Prop} {b m : Nat} {low : Int} {kn : List (Int × PSl)} (w : World) (h : Wnd G w b m low kn) (hg0 : Gd G b m w.heap.size) (cs : List Value) (ld : Int) (sls : List PSl) (hD : RDw GD w cs ld sls) (hG : ∀ j, GD j → NB b m j ∧ j < w.heap.size)
    (r : List Value) (a : PWAct) (ha : RWAct GD w r a) (hk : -9223372036854775808 ≤ a.2.1 ∧ a.2.1 ≤ 9223372036854775807) (hz : szP a.2) :
    Calls Try.prog 9 #[.pointer (some ⟨b, 0, none⟩), .agg cs.toArray, .agg r.toArray] w fun e w' => ∃ cs', e = .returned (.tuple #[.agg cs'.toArray, .int .i64 (stA low kn a).2, .int .i64 (stB ld sls a).2]) ∧
      RDw GD w' cs' (stB ld sls a).1.1 (stB ld sls a).1.2 ∧ Wnd G w' b m (stA low kn a).1.1 (stA low kn a).1.2 ∧ Gw w w' b m := by
  obtain ⟨o, g, c, rfl, h1, h2, h3⟩ := ha
  obtain ⟨kd, k, bl, x, ct⟩ := a
  have bt : ∀ n : Int, kd = n → (kd == n) = true := fun n e => by simp [e]
  have bf : ∀ n : Int, kd ≠ n → (kd == n) = false := fun n e => by simp [e]
  by_cases k0 : kd = 0
  · unfold stA stB
    rw [if_pos k0, if_pos k0]
    exact do_vote w h hg0 cs ld sls hD hG kd bl k hk o g x h1 h2 c ct h3 hz.1 hz.2 (bt 0 k0) (bf 1 (by simp only [k0]; decide)) (bf 2 (by simp only [k0]; decide)) (bf 3 (by simp only [k0]; decide))
  by_cases k1 : kd = 1
  · unfold stA stB
    rw [if_neg k0, if_pos k1, if_neg k0, if_pos k1]
    exact do_prep w h hg0 cs ld sls hD hG kd bl k hk o g x h1 h2 c ct h3 hz.1 hz.2 (bf 0 k0) (bt 1 k1) (bf 2 (by simp only [k1]; decide)) (bf 3 (by simp only [k1]; decide))
  by_cases k2 : kd = 2
  · unfold stA stB
    rw [if_neg k0, if_neg k1, if_pos k2, if_neg k0, if_neg k1, if_pos k2]
    exact do_done w h hg0 cs ld sls hD hG kd bl k hk o g x h1 h2 c ct h3 hz.1 hz.2 (bf 0 k0) (bf 1 k1) (bt 2 k2) (bf 3 (by simp only [k2]; decide))
  by_cases k3 : kd = 3
  · unfold stA stB
    rw [if_neg k0, if_neg k1, if_neg k2, if_pos k3, if_neg k0, if_neg k1, if_neg k2, if_pos k3]
    exact do_cut w h hg0 cs ld sls hD hG kd bl k hk o g x h1 h2 c ct h3 hz.1 hz.2 (bf 0 k0) (bf 1 k1) (bf 2 k2) (bt 3 k3)
  · unfold stA stB
    rw [if_neg k0, if_neg k1, if_neg k2, if_neg k3, if_neg k0, if_neg k1, if_neg k2, if_neg k3]
    exact do_none w h hg0 cs ld sls hD hG kd bl k hk o g x h1 h2 c ct h3 hz.1 hz.2 ⟨k0, k1, k2, k3⟩
end
section
open Go.RowKit Oct Kvl Bal Go.Shelf Go.Sort
theorem bldRep (va : Option Addr) (vn vc : Nat) (w : World) : (Instr.build 59 #[(5, .slice va vn vc)]).run Try.prog w = .ok (.agg ([.int .i64 0, .int .i64 0, .int .i64 0, .int .i64 0, .slice none 0 0, .slice none 0 0, .slice va vn vc, .slice none 0 0] : List Value).toArray) w := by kernel_rfl
theorem one_Ar {kd k b1 b2 x1 x2 : Int} {o s c : Value} (h1 : o.oneCell' = true) (h2 : s.oneCell' = true) (h3 : c.oneCell' = true) : ∀ u ∈ [Value.int .i64 kd, .int .i64 k, .int .i64 b1, .int .i64 b2, .int .i64 x1, .int .i64 x2, o, s, c], u.oneCell' = true := by
  intro u hu
  simp only [List.mem_cons, List.not_mem_nil, or_false] at hu
  rcases hu with rfl | rfl | rfl | rfl | rfl | rfl | rfl | rfl | rfl <;> first | rfl | assumption
set_option maxRecDepth 10000 in
set_option maxHeartbeats 8000000 in
theorem runsWi_any (W : World) (L : Int) (vv : Value) (ys : List PWAct) (hvs : RL RWAct 9 Any W vv ys) (hz : ∀ a ∈ ys, szWA a) :
    Calls Try.prog 3 #[.int .i64 L, vv] W fun e w' => e = .returned (.bool true) ∧ Below W.heap.size W w' := by
  obtain ⟨aa, ca, rfl, _⟩ := hvs.form
  have hlv : (ys.length : Int) ≤ 9223372036854775807 := by
    by_cases h0 : 0 < ys.length
    · obtain ⟨_, _, _, _, h1, h2, _⟩ := hvs.at h0
      unfold maxLen at h2
      omega
    · omega
  go_enter Try.func3, Try.ntmps3
  go_upto_region 4 with (first
    | (go_at_call 7; refine (newW_any w1 L).mono ?_; rintro e w2 ⟨rfl, h2, b2⟩)
    | (go_at_call 6; refine (windowAlive_any W).mono ?_; rintro e w1 ⟨rfl, b1⟩))
  have hs1 := b1.size
  have BW2 := below_and b1 (Nat.le_refl _) b2
  have hlt2 := h2.lt
  clear b1 b2
  generalize hm : w1.heap.size = m at *
  generalize hbb : m + 1 = b at *
  have hmb : m < b := by omega
  clear hm hbb
  by_cases hl100 : ys.length ≤ 100
  case neg =>
    have hgt : decide ((100 : Int) < (ys.length : Int)) = true := by simp; omega
    go_wp2_with fail
    go_ret
    exact ⟨rfl, BW2⟩
  have hgt : decide ((100 : Int) < (ys.length : Int)) = false := by simp; omega
  obtain ⟨zc, hzl, hzv⟩ := zW_ex
  go_upto_region 7 with (first
    | (go_at_call 8; refine (refNewW_any w2 L).mono ?_; rintro e w3 ⟨cs0, rfl, hD0, b3⟩; have Z3 := Row.new w3 36 zc; have hone0 := (hD0 Any w3).one; have hl0 := (hD0 Any w3).len; have hi0 : (Try.prog.info? 36).map (·.size) = some cs0.length := by rw [hl0]; exact Try.inf36)
    | (refine wl_store rfl _ _ _ rfl w3.heap.size cs0 rfl rfl _ _ Z3 (by rw [hzl, hl0]) hi0 hone0 ?_; intro w4 R4 g4))
  clear hgt
  have b4 : Below w3.heap.size w3 w4 := (below_alloc w3 (.cells (zc : List Value).toArray 36)).trans (grown_below g4 (by simp) (fun k hk => by cases hk; exact Nat.le_refl _))
  have R4 := R4.out
  have BW4 := below_and (below_and BW2 (Nat.le_refl _) b3) (Nat.le_refl _) b4
  have h3 := h2.below b3
  have hlt3 := h3.lt
  have hgD : W.heap.size ≤ w3.heap.size := (below_and BW2 (Nat.le_refl _) b3).size
  have hW4 : Wnd (fun j => NB b m j ∧ j ≠ w3.heap.size) w4 b m (bndW L) [] := h3.mv b4.size (b4.block b hlt3.1) (b4.block m hlt3.2) (fun k hk hlt => ⟨b4.block k hlt, hk, by omega⟩)
  have hD4 := hD0 (fun j => j < W.heap.size) w4
  clear Z3 hone0 hl0 hi0 g4 b4 h3 h2 BW2 b3 hD0 hlt2
  generalize hgDe : w3.heap.size = gD at *
  clear hgDe
  have hGf : ∀ N, gD < N → b < N → m < N → Gd (fun j => NB b m j ∧ j ≠ gD) b m N := fun N h1 h2 h3 => ⟨fun j hj => hj.1, fun j hj => ⟨⟨by omega, by omega⟩, by omega⟩⟩
  have HGF := (show Hid (∀ N, gD < N → b < N → m < N → Gd (fun j => NB b m j ∧ j ≠ gD) b m N) from hGf)
  have HZV := (show Hid (zc.length = 369) from hzl)
  clear hGf hzl
  go_wp2_with fail
  go_loopw [34] (fun j wr => ∃ (n : Nat) (low : Int) (kn : List (Int × PSl)) (cs : List Value) (sls : List PSl), n ≤ ys.length ∧ j = .int .i64 n ∧ Wnd (fun j => NB b m j ∧ j ≠ gD) wr b m low kn ∧ Row wr gD 36 cs ∧ RDw (fun j => j < W.heap.size) wr cs low sls ∧ RelW low kn sls ∧ Below W.heap.size W wr) (fun j _ => ys.length - (intOf j).toNat)
  case atStart => exact ⟨0, _, _, _, _, by omega, rfl, hW4, R4, hD4, RelW.new L, BW4⟩
  case round =>
    clear hW4 R4 hD4 BW4
    obtain ⟨n, low, kn, cs, sls, hn, rfl, hW, hR, hD, hRel, hB⟩ := hrel
    by_cases hnl : n < ys.length
    case pos =>
      obtain ⟨⟨kd, k, ⟨b1, b2⟩, ⟨x1, x2, xo, xs⟩, ct⟩, hA⟩ : ∃ A, ys[n]? = some A := ⟨_, List.getElem?_eq_getElem hnl⟩
      have hzA := hz _ (List.mem_of_getElem? hA)
      obtain ⟨bv, off, cap, hve, _, _, _, hbv, hat⟩ := hvs.at (by omega)
      obtain ⟨rvv, _, hrng, o, s, c, rfl, t1, t2, t3⟩ := hat n _ hA
      injection hve with hv1 hv2 hv3
      subst hv1 hv3
      simp only at t1 t2 t3 hrng
      clear hv2 hat hA
      have hrng := rangeAt_block hrng (hB.block bv hbv)
      have hrow0 := Row.new wr 41 [.int .i64 0, .int .i64 0, .int .i64 0, .int .i64 0, .int .i64 0, .int .i64 0, .slice none 0 0, .slice none 0 0, .slice none 0 0]
      have hon : ∀ u ∈ [Value.int .i64 kd, .int .i64 k, .int .i64 b1, .int .i64 b2, .int .i64 x1, .int .i64 x2, o, s, c], u.oneCell' = true := one_Ar t1.one t2.one t3.one
      have hzv0 := hzv
      clear hzv
      go_upto_region 10 with (first
        | (refine wpList_load_mid rfl _ _ rfl bv (off + n * 9) rfl [.int .i64 kd, .int .i64 k, .int .i64 b1, .int .i64 b2, .int .i64 x1, .int .i64 x2, o, s, c] _ hrng Try.underlying41 rfl (by kernel_rfl) ?_)
        | (refine wl_store rfl _ _ _ rfl wr.heap.size [.int .i64 kd, .int .i64 k, .int .i64 b1, .int .i64 b2, .int .i64 x1, .int .i64 x2, o, s, c] rfl rfl _ _ hrow0 rfl (by kernel_rfl) hon ?_; intro w8 rA g8))
      have b8 : Below wr.heap.size wr w8 := (below_alloc wr (.cells ([.int .i64 0, .int .i64 0, .int .i64 0, .int .i64 0, .int .i64 0, .int .i64 0, .slice none 0 0, .slice none 0 0, .slice none 0 0] : List Value).toArray 41)).trans (grown_below g8 (by simp) (fun k hk => by cases hk; exact Nat.le_refl _))
      have rA := rA.out
      have hW8 := hW.below b8
      have hB8 := below_and hB (Nat.le_refl _) b8
      have hR8 := hR.below b8
      have hwltr := hW.lt
      have hcb : wr.heap.size ≠ b ∧ wr.heap.size ≠ m ∧ wr.heap.size ≠ gD := by
        have := hR.lt
        omega
      have hD8 : RDw (fun j => j < W.heap.size) w8 cs low sls := hD.mv b8.size (fun j hj hlt => ⟨b8.block j hlt, hj⟩)
      obtain ⟨cA, hcA⟩ : ∃ c, c = wr.heap.size := ⟨_, rfl⟩
      rw [← hcA] at rA hcb ⊢
      clear hrng hrow0 g8 hon hcA b8 hW hR hD hB hwltr
      have hk := hzA.2
      have hok := hW8.ok
      have hact := hRel.act hok (kd, k, (b1, b2), (x1, x2, xo, xs), ct)
      have hlt8 := hW8.lt
      have hgl8 := hR8.lt
      have hDO := do_any w8 hW8 (HGF.out w8.heap.size hgl8 hlt8.1 hlt8.2) cs low sls hD8 (fun j hj => ⟨⟨by omega, by omega⟩, by have := hB8.size; omega⟩) [.int .i64 kd, .int .i64 k, .int .i64 b1, .int .i64 b2, .int .i64 x1, .int .i64 x2, o, s, c] (kd, k, (b1, b2), (x1, x2, xo, xs), ct) ⟨_, _, _, rfl, (t1.lowW).mv (fun j hj hlt => ⟨hB8.block j hlt, hj⟩), (t2.lowW).mv (fun j hj hlt => ⟨hB8.block j hlt, hj⟩), (t3.lowW).mv mov_vote hB8.size (fun j hj hlt => ⟨hB8.block j hlt, hj⟩)⟩ hk hzA.1
      rw [hact.2.1, hact.2.2] at hDO
      have hRel' := hact.1
      have hinf : (Try.prog.info? 36).map (·.size) = some cs.length := by rw [hD8.len]; exact Try.inf36
      clear hact
      generalize (stA low kn (kd, k, (b1, b2), (x1, x2, xo, xs), ct)).1.1 = low' at *
      generalize (stA low kn (kd, k, (b1, b2), (x1, x2, xo, xs), ct)).1.2 = kn' at *
      generalize (stA low kn (kd, k, (b1, b2), (x1, x2, xo, xs), ct)).2 = E at *
      generalize (stB low sls (kd, k, (b1, b2), (x1, x2, xo, xs), ct)).1.2 = sls' at *
      have HDO := (show Hid (Calls _ _ _ _ _) from hDO)
      clear hDO
      go_upto_region 11 with (first
        | (refine wl_load rfl _ _ rfl gD rfl _ _ hR8 _ Try.underlying36 rfl hinf ?_)
        | (refine wl_load rfl _ _ rfl cA rfl _ _ rA _ Try.underlying41 rfl (by kernel_rfl) ?_)
        | (go_at_call 9; refine HDO.out.mono ?_; rintro e w9 ⟨cs', rfl, hD9, hW9, g9⟩; have Z9 := Row.new w9 36 zc; have hone9 := hD9.one; have hl9 := hD9.len; have hi9 : (Try.prog.info? 36).map (·.size) = some cs'.length := (by rw [hl9]; exact Try.inf36); have hzl := HZV.out; have hzv := hzv0)
        | (refine wl_store rfl _ _ _ rfl w9.heap.size cs' rfl rfl _ _ Z9 (by rw [hzl, hl9]) hi9 hone9 ?_; intro wa Ra ga))
      have ba : Below w9.heap.size w9 wa := (below_alloc w9 (.cells (zc : List Value).toArray 36)).trans (grown_below ga (by simp) (fun k hk => by cases hk; exact Nat.le_refl _))
      have Ra := Ra.out
      have RDa := (hR8.gw g9 (by omega) (by omega)).below ba
      have rAa := (rA.gw g9 hcb.1 hcb.2.1).below ba
      have hWa := hW9.below ba
      have hDa : RDw (fun j => j < W.heap.size) wa cs' low' sls' := hD9.mv ba.size (fun j hj hlt => ⟨ba.block j hlt, hj⟩)
      have hs8 := hB8.size
      have hB9 : Below W.heap.size W wa := (hB8.trans (g9.below hs8 (by omega) hs1)).trans (ba.mono (Nat.le_trans hs8 g9.size))
      have hlcs : cs.length = cs'.length := by rw [hD8.len, hl9]
      clear Z9 hR8 rA hW9 hD9 hW8 hD8 hB8 ga ba HDO hzv hzl
      obtain ⟨bx, hbx⟩ : ∃ c, c = w9.heap.size := ⟨_, rfl⟩
      rw [← hbx] at Ra ⊢
      have hbg : bx ≠ gD := by have := g9.size; omega
      clear hbx
      go_upto_region 12 with (first
        | (refine wl_load rfl _ _ rfl bx rfl _ _ Ra _ Try.underlying36 rfl hi9 ?_)
        | (refine wl_store rfl _ _ _ rfl gD cs' rfl rfl _ _ RDa hlcs hi9 hone9 ?_; intro wb Rb gb))
      have Rb := Rb.out
      have rAb := rAa.grown gb (fun e => by have := Option.some.inj e; omega)
      have hlta := hWa.lt
      have hWb : Wnd (fun j => NB b m j ∧ j ≠ gD) wb b m low' kn' := hWa.mv gb.size (gb.block b hlta.1 (fun e => by have := Option.some.inj e; omega)) (gb.block m hlta.2 (fun e => by have := Option.some.inj e; omega)) (Mv.boxG gb (fun hh => hh.2 rfl))
      have hDb : RDw (fun j => j < W.heap.size) wb cs' low' sls' := hDa.mv gb.size (Mv.boxG gb (fun hh => by omega))
      have hBb : Below W.heap.size W wb := hB9.trans (grown_below gb hB9.size (fun k hk => by cases hk; omega))
      clear RDa Ra rAa hWa hDa hB9 gb hlta hlcs
      have dE : (E != E) = false := by simp
      have dL : (low' != low') = false := by simp
      have dI : (inW low' k != inW low' k) = false := by simp
      have hhd := hDb.head
      have hak : atD low' sls' k = atL kn' k := hRel'.2 k
      have HWU := (show Hid (∀ u, Below wb.heap.size wb u → Wnd (fun j => NB b m j ∧ j ≠ gD) u b m low' kn') from fun u hu => hWb.below hu)
      have HDU := (show Hid (∀ u, Below wb.heap.size wb u → RDw Any u cs' low' sls') from fun u hu => (hDb.mv hu.size (fun j hj hlt => ⟨hu.block j hlt, trivial⟩)))
      have HAK := (show Hid (atD low' sls' k = atL kn' k) from hak)
      have B0 : Below wb.heap.size wb wb.drew := ⟨rfl, rfl, rfl, Nat.le_refl _, fun _ _ => rfl⟩
      have SU : ∀ u, Below wb.heap.size wb u → Row u cA 41 [.int .i64 kd, .int .i64 k, .int .i64 b1, .int .i64 b2, .int .i64 x1, .int .i64 x2, o, s, c] ∧ Row u gD 36 cs' := fun u hu => ⟨rAb.below hu, Rb.below hu⟩
      have HSU := (show Hid (∀ u, Below wb.heap.size wb u → Row u cA 41 [.int .i64 kd, .int .i64 k, .int .i64 b1, .int .i64 b2, .int .i64 x1, .int .i64 x2, o, s, c] ∧ Row u gD 36 cs') from SU)
      have S0 := SU _ B0
      clear hak SU
      try go_simp
      refine wp_region_held_drew (S := fun u => Row u cA 41 [.int .i64 kd, .int .i64 k, .int .i64 b1, .int .i64 b2, .int .i64 x1, .int .i64 x2, o, s, c] ∧ Row u gD 36 cs') (by kernel_rfl) S0 (fun hHeld => ?_)
      clear hHeld
      refine wpAnyH_take (i := 0) (v := .int .i64 E) rfl (by kernel_rfl) (by kernel_rfl) (by kernel_rfl) (fun _ _ _ h => h) (Or.inl ⟨by kernel_rfl, fun u hSu => by go_simp⟩) S0 ?_
      simp only [Act.put, List.setIfInBounds_toArray, List.set_cons_zero, List.set_cons_succ]
      refine wpAnyH_take (i := 1) (v := .int .i64 E) rfl (by kernel_rfl) (by kernel_rfl) (by kernel_rfl) (fun _ _ _ h => h) (Or.inl ⟨by kernel_rfl, fun u hSu => by go_simp⟩) S0 ?_
      simp only [Act.put, List.setIfInBounds_toArray, List.set_cons_zero, List.set_cons_succ]
      refine wpAnyH_take (i := 2) (v := .bool false) rfl (by kernel_rfl) (by kernel_rfl) (by kernel_rfl) (fun _ _ _ h => h) (Or.inl ⟨by kernel_rfl, fun u hSu => by go_simp⟩) S0 ?_
      simp only [Act.put, List.setIfInBounds_toArray, List.set_cons_zero, List.set_cons_succ]
      refine wpAnyH_take (i := 3) (v := .bool false) rfl (by kernel_rfl) (by kernel_rfl) (by kernel_rfl) (fun _ _ _ h => h) (Or.inl ⟨by kernel_rfl, fun u hSu => by go_simp⟩) S0 ?_
      simp only [Act.put, List.setIfInBounds_toArray, List.set_cons_zero, List.set_cons_succ]
      refine wpAnyH_take (i := 4) (v := .pointer (some ⟨b, 0, none⟩)) rfl (by kernel_rfl) (by kernel_rfl) (by kernel_rfl) (fun _ _ _ h => h) (Or.inl ⟨by kernel_rfl, fun u hSu => by go_simp⟩) S0 ?_
      simp only [Act.put, List.setIfInBounds_toArray, List.set_cons_zero, List.set_cons_succ]
      refine wpAnyH_take (i := 6) (v := .pointer (some ⟨gD, 0, none⟩)) rfl (by kernel_rfl) (by kernel_rfl) (by kernel_rfl) (fun _ _ _ h => h) (Or.inl ⟨by kernel_rfl, fun u hSu => by go_simp⟩) S0 ?_
      simp only [Act.put, List.setIfInBounds_toArray, List.set_cons_zero, List.set_cons_succ]
      refine wpAnyH_take (i := 7) (v := .int .i64 low') rfl (by kernel_rfl) (by kernel_rfl) (by kernel_rfl) (fun _ _ _ h => h) (Or.inl ⟨by kernel_rfl, fun u hSu => by have hck := hSu.2.cell (j := 0) hhd; go_simp⟩) S0 ?_
      simp only [Act.put, List.setIfInBounds_toArray, List.set_cons_zero, List.set_cons_succ]
      refine wpAnyH_ready (rs := [5]) (by kernel_rfl) (by simp) ?_
      refine AllReadyH.cons (o := _) rfl (fun K hK => ?_) AllReadyH.nil
      go_simp
      refine (lowW_any wb.drew (HWU.out _ B0)).mono ?_
      rintro e u0 ⟨rfl, hu0⟩
      have hu0 := hu0.symm; subst hu0
      try go_simp
      refine hK.out _ _ S0 (fun hHeld => ?_)
      clear hK K hHeld
      refine wpAnyH_take (i := 8) (v := .bool false) rfl (by kernel_rfl) (by kernel_rfl) (by kernel_rfl) (fun _ _ _ h => h) (Or.inl ⟨by kernel_rfl, fun u hSu => by go_simp⟩) S0 ?_
      simp only [Act.put, List.setIfInBounds_toArray, List.set_cons_zero, List.set_cons_succ]
      refine wpAnyH_take (i := 9) (v := .bool false) rfl (by kernel_rfl) (by kernel_rfl) (by kernel_rfl) (fun _ _ _ h => h) (Or.inl ⟨by kernel_rfl, fun u hSu => by go_simp⟩) S0 ?_
      simp only [Act.put, List.setIfInBounds_toArray, List.set_cons_zero, List.set_cons_succ]
      refine wpAnyH_take (i := 10) (v := .bool false) rfl (by kernel_rfl) (by kernel_rfl) (by kernel_rfl) (fun _ _ _ h => h) (Or.inl ⟨by kernel_rfl, fun u hSu => by go_simp⟩) S0 ?_
      simp only [Act.put, List.setIfInBounds_toArray, List.set_cons_zero, List.set_cons_succ]
      refine wpAnyH_take (i := 11) (v := .pointer (some ⟨b, 0, none⟩)) rfl (by kernel_rfl) (by kernel_rfl) (by kernel_rfl) (fun _ _ _ h => h) (Or.inl ⟨by kernel_rfl, fun u hSu => by go_simp⟩) S0 ?_
      simp only [Act.put, List.setIfInBounds_toArray, List.set_cons_zero, List.set_cons_succ]
      refine wpAnyH_take (i := 12) (v := .pointer (some ⟨cA, 1, none⟩)) rfl (by kernel_rfl) (by kernel_rfl) (by kernel_rfl) (fun _ _ _ h => h) (Or.inl ⟨by kernel_rfl, fun u hSu => by go_simp⟩) S0 ?_
      simp only [Act.put, List.setIfInBounds_toArray, List.set_cons_zero, List.set_cons_succ]
      refine wpAnyH_take (i := 13) (v := .pointer (some ⟨cA, 1, none⟩)) rfl (by kernel_rfl) (by kernel_rfl) (by kernel_rfl) (fun _ _ _ h => h) (Or.inl ⟨by kernel_rfl, fun u hSu => by go_simp⟩) S0 ?_
      simp only [Act.put, List.setIfInBounds_toArray, List.set_cons_zero, List.set_cons_succ]
      refine wpAnyH_take (i := 14) (v := .int .i64 k) rfl (by kernel_rfl) (by kernel_rfl) (by kernel_rfl) (fun _ _ _ h => h) (Or.inl ⟨by kernel_rfl, fun u hSu => by have hck := hSu.1.cell (j := 1) rfl; go_simp⟩) S0 ?_
      simp only [Act.put, List.setIfInBounds_toArray, List.set_cons_zero, List.set_cons_succ]
      refine wpAnyH_take (i := 16) (v := .agg cs'.toArray) rfl (by kernel_rfl) (by kernel_rfl) (by kernel_rfl) (fun _ _ _ h => h) (yieldsIf_load_mid (by kernel_rfl) _ _ rfl gD 0 (by go_simp) cs' _ (fun u hu => hu.2.rng) Try.underlying36 rfl hi9) S0 ?_
      simp only [Act.put, List.setIfInBounds_toArray, List.set_cons_zero, List.set_cons_succ]
      refine wpAnyH_take (i := 17) (v := .pointer (some ⟨cA, 1, none⟩)) rfl (by kernel_rfl) (by kernel_rfl) (by kernel_rfl) (fun _ _ _ h => h) (Or.inl ⟨by kernel_rfl, fun u hSu => by go_simp⟩) S0 ?_
      simp only [Act.put, List.setIfInBounds_toArray, List.set_cons_zero, List.set_cons_succ]
      refine wpAnyH_take (i := 18) (v := .pointer (some ⟨cA, 1, none⟩)) rfl (by kernel_rfl) (by kernel_rfl) (by kernel_rfl) (fun _ _ _ h => h) (Or.inl ⟨by kernel_rfl, fun u hSu => by go_simp⟩) S0 ?_
      simp only [Act.put, List.setIfInBounds_toArray, List.set_cons_zero, List.set_cons_succ]
      refine wpAnyH_take (i := 19) (v := .int .i64 k) rfl (by kernel_rfl) (by kernel_rfl) (by kernel_rfl) (fun _ _ _ h => h) (Or.inl ⟨by kernel_rfl, fun u hSu => by have hck := hSu.1.cell (j := 1) rfl; go_simp⟩) S0 ?_
      simp only [Act.put, List.setIfInBounds_toArray, List.set_cons_zero, List.set_cons_succ]
      refine wpAnyH_ready (rs := [15]) (by kernel_rfl) (by simp) ?_
      refine AllReadyH.cons (o := _) rfl (fun K hK => ?_) AllReadyH.nil
      go_simp
      refine (atW_any wb.drew (HWU.out _ B0) k).mono ?_
      rintro e u1 ⟨r1, rfl, hr1, q1⟩
      have B1 := below_and B0 (Nat.le_refl _) q1; have S1 := HSU.out u1 B1
      try go_simp
      refine hK.out _ _ S1 (fun hHeld => ?_)
      clear hK K hHeld
      refine wpAnyH_ready (rs := [20]) (by kernel_rfl) (by simp) ?_
      refine AllReadyH.cons (o := _) rfl (fun K hK => ?_) AllReadyH.nil
      go_simp
      refine (refAtW_any u1 cs' low' sls' (HDU.out u1 B1) k hk).mono ?_
      rintro e u2 ⟨r2, rfl, hr2, q2⟩
      have B2 := below_and B1 (Nat.le_refl _) q2; have S2 := HSU.out u2 B2; have hr2 := hr2 Any u2 (HDU.out u2 B2); rw [HAK.out] at hr2
      try go_simp
      refine hK.out _ _ S2 (fun hHeld => ?_)
      clear hK K hHeld
      refine wpAnyH_ready (rs := [21]) (by kernel_rfl) (by simp) ?_
      refine AllReadyH.cons (o := _) rfl (fun K hK => ?_) AllReadyH.nil
      go_simp
      refine (sameSl_eq u2 r1 r2 _ (mov_sl _ _ _ _ _ _ hr1 q2.size (fun j hj hlt => ⟨q2.block j hlt, trivial⟩)) hr2).mono ?_
      rintro e u3 ⟨rfl, q3⟩
      have B3 := below_and B2 (Nat.le_refl _) q3; have S3 := HSU.out u3 B3
      try go_simp
      refine hK.out _ _ S3 (fun hHeld => ?_)
      clear hK K hHeld
      refine wpAnyH_take (i := 22) (v := .bool false) rfl (by kernel_rfl) (by kernel_rfl) (by kernel_rfl) (fun _ _ _ h => h) (Or.inl ⟨by kernel_rfl, fun u hSu => by go_simp⟩) S3 ?_
      simp only [Act.put, List.setIfInBounds_toArray, List.set_cons_zero, List.set_cons_succ]
      refine wpAnyH_take (i := 23) (v := .bool false) rfl (by kernel_rfl) (by kernel_rfl) (by kernel_rfl) (fun _ _ _ h => h) (Or.inl ⟨by kernel_rfl, fun u hSu => by go_simp⟩) S3 ?_
      simp only [Act.put, List.setIfInBounds_toArray, List.set_cons_zero, List.set_cons_succ]
      refine wpAnyH_take (i := 24) (v := .bool false) rfl (by kernel_rfl) (by kernel_rfl) (by kernel_rfl) (fun _ _ _ h => h) (Or.inl ⟨by kernel_rfl, fun u hSu => by go_simp⟩) S3 ?_
      simp only [Act.put, List.setIfInBounds_toArray, List.set_cons_zero, List.set_cons_succ]
      refine wpAnyH_take (i := 25) (v := .pointer (some ⟨b, 0, none⟩)) rfl (by kernel_rfl) (by kernel_rfl) (by kernel_rfl) (fun _ _ _ h => h) (Or.inl ⟨by kernel_rfl, fun u hSu => by go_simp⟩) S3 ?_
      simp only [Act.put, List.setIfInBounds_toArray, List.set_cons_zero, List.set_cons_succ]
      refine wpAnyH_take (i := 26) (v := .pointer (some ⟨cA, 1, none⟩)) rfl (by kernel_rfl) (by kernel_rfl) (by kernel_rfl) (fun _ _ _ h => h) (Or.inl ⟨by kernel_rfl, fun u hSu => by go_simp⟩) S3 ?_
      simp only [Act.put, List.setIfInBounds_toArray, List.set_cons_zero, List.set_cons_succ]
      refine wpAnyH_take (i := 27) (v := .pointer (some ⟨cA, 1, none⟩)) rfl (by kernel_rfl) (by kernel_rfl) (by kernel_rfl) (fun _ _ _ h => h) (Or.inl ⟨by kernel_rfl, fun u hSu => by go_simp⟩) S3 ?_
      simp only [Act.put, List.setIfInBounds_toArray, List.set_cons_zero, List.set_cons_succ]
      refine wpAnyH_take (i := 28) (v := .int .i64 k) rfl (by kernel_rfl) (by kernel_rfl) (by kernel_rfl) (fun _ _ _ h => h) (Or.inl ⟨by kernel_rfl, fun u hSu => by have hck := hSu.1.cell (j := 1) rfl; go_simp⟩) S3 ?_
      simp only [Act.put, List.setIfInBounds_toArray, List.set_cons_zero, List.set_cons_succ]
      refine wpAnyH_take (i := 30) (v := .agg cs'.toArray) rfl (by kernel_rfl) (by kernel_rfl) (by kernel_rfl) (fun _ _ _ h => h) (yieldsIf_load_mid (by kernel_rfl) _ _ rfl gD 0 (by go_simp) cs' _ (fun u hu => hu.2.rng) Try.underlying36 rfl hi9) S3 ?_
      simp only [Act.put, List.setIfInBounds_toArray, List.set_cons_zero, List.set_cons_succ]
      refine wpAnyH_take (i := 31) (v := .pointer (some ⟨cA, 1, none⟩)) rfl (by kernel_rfl) (by kernel_rfl) (by kernel_rfl) (fun _ _ _ h => h) (Or.inl ⟨by kernel_rfl, fun u hSu => by go_simp⟩) S3 ?_
      simp only [Act.put, List.setIfInBounds_toArray, List.set_cons_zero, List.set_cons_succ]
      refine wpAnyH_take (i := 32) (v := .pointer (some ⟨cA, 1, none⟩)) rfl (by kernel_rfl) (by kernel_rfl) (by kernel_rfl) (fun _ _ _ h => h) (Or.inl ⟨by kernel_rfl, fun u hSu => by go_simp⟩) S3 ?_
      simp only [Act.put, List.setIfInBounds_toArray, List.set_cons_zero, List.set_cons_succ]
      refine wpAnyH_take (i := 33) (v := .int .i64 k) rfl (by kernel_rfl) (by kernel_rfl) (by kernel_rfl) (fun _ _ _ h => h) (Or.inl ⟨by kernel_rfl, fun u hSu => by have hck := hSu.1.cell (j := 1) rfl; go_simp⟩) S3 ?_
      simp only [Act.put, List.setIfInBounds_toArray, List.set_cons_zero, List.set_cons_succ]
      refine wpAnyH_ready (rs := [29]) (by kernel_rfl) (by simp) ?_
      refine AllReadyH.cons (o := _) rfl (fun K hK => ?_) AllReadyH.nil
      go_simp
      refine (inW_any u3 (HWU.out u3 B3) k).mono ?_
      rintro e u4 ⟨rfl, hu4⟩
      have hu4 := hu4.symm; subst hu4
      try go_simp
      refine hK.out _ _ S3 (fun hHeld => ?_)
      clear hK K hHeld
      refine wpAnyH_ready (rs := [34]) (by kernel_rfl) (by simp) ?_
      refine AllReadyH.cons (o := _) rfl (fun K hK => ?_) AllReadyH.nil
      go_simp
      refine (refInW_any u3 cs' low' sls' (HDU.out u3 B3) k hk).mono ?_
      rintro e u5 ⟨rfl, q5⟩
      have B5 := below_and B3 (Nat.le_refl _) q5; have S5 := HSU.out u5 B5
      try go_simp
      refine hK.out _ _ S5 (fun hHeld => ?_)
      clear hK K hHeld
      refine wpAnyH_take (i := 35) (v := .bool false) rfl (by kernel_rfl) (by kernel_rfl) (by kernel_rfl) (fun _ _ _ h => h) (Or.inl ⟨by kernel_rfl, fun u hSu => by go_simp⟩) S5 ?_
      simp only [Act.put, List.setIfInBounds_toArray, List.set_cons_zero, List.set_cons_succ]
      refine wpAnyH_take (i := 36) (v := .bool false) rfl (by kernel_rfl) (by kernel_rfl) (by kernel_rfl) (fun _ _ _ h => h) (Or.inl ⟨by kernel_rfl, fun u hSu => by go_simp⟩) S5 ?_
      simp only [Act.put, List.setIfInBounds_toArray, List.set_cons_zero, List.set_cons_succ]
      refine wpAnyH_done (by kernel_rfl) ?_ _
      have hW5 := HWU.out u5 B5
      have hR5 := S5.2
      have hD5 : RDw (fun j => j < W.heap.size) u5 cs' low' sls' := hDb.mv B5.size (fun j hj hlt => ⟨B5.block j hlt, hj⟩)
      have hB5 := below_and hBb (Nat.le_refl _) B5
      clear HWU HDU HSU S0 S1 S2 S3 B0 B1 B2 B3 hr1 hr2 q1 q2 q3 q5 hDb hWb hBb Rb rAb
      go_wp2_with fail
      go_roundw
      case rel => exact ⟨n + 1, _, _, _, _, by omega, by go_num, hW5, hR5, hD5, hRel', hB5⟩
      case measure => simp [intOf]; omega
    clear hvs hz hlv hl100 hzv
    have hok := hW.ok
    have hDA : RDw Any wr cs low sls := hD.mv (Nat.le_refl _) Mv.any
    have hinf : (Try.prog.info? 36).map (·.size) = some cs.length := by rw [hD.len]; exact Try.inf36
    have HWU := (show Hid (∀ u, Below wr.heap.size wr u → Wnd (fun j => NB b m j ∧ j ≠ gD) u b m low kn) from fun u hu => hW.below hu)
    have HDU := (show Hid (∀ u, Below wr.heap.size wr u → RDw Any u cs low sls) from fun u hu => hDA.below hu)
    have HRU := (show Hid (∀ u, Below wr.heap.size wr u → Row u gD 36 cs) from fun u hu => hR.below hu)
    have HRL := (show Hid (∀ ss : List Int, ss.Perm (keysW kn) → ss.mergeSort (fun x y => decide (x ≤ y)) = listD low sls 16) from fun ss hp => slots_eq hRel hok hp)
    have HPE := (show Hid (prepsP kn (listD low sls 16) = prepsD low sls 16) from preps_eq hRel 16 (Nat.le_refl _))
    have HAK := (show Hid (∀ k, atD low sls k = atL kn k) from hRel.2)
    have HLB := (show Hid (∀ x ∈ listD low sls 16, -9223372036854775808 ≤ x ∧ x ≤ 9223372036854775807) from fun x hx => by
      have h1 := (mem_listD hRel hok x).1 hx
      obtain ⟨y, hy, rfl⟩ := List.mem_map.1 h1
      have h2 := inW_iff.1 (hok.rng y hy)
      have h3 := hok.lo
      omega)
    have B0 : Below wr.heap.size wr wr.drew := ⟨rfl, rfl, rfl, Nat.le_refl _, fun _ _ => rfl⟩
    have S0 := HRU.out _ B0
    clear hW hD hRel hDA
    generalize hLS : listD low sls 16 = LS at *
    generalize hPS : prepsD low sls 16 = PS at *
    go_upto_region 15 with fail
    try go_simp
    refine wp_region_held_drew (S := fun u => Row u gD 36 cs) (by kernel_rfl) S0 (fun hHeld => ?_)
    clear hHeld
    refine wpAnyH_take (i := 0) (v := .pointer (some ⟨b, 0, none⟩)) rfl (by kernel_rfl) (by kernel_rfl) (by kernel_rfl) (fun _ _ _ h => h) (Or.inl ⟨by kernel_rfl, fun u hSu => by go_simp⟩) S0 ?_
    simp only [Act.put, List.setIfInBounds_toArray, List.set_cons_zero, List.set_cons_succ]
    refine wpAnyH_take (i := 2) (v := .agg cs.toArray) rfl (by kernel_rfl) (by kernel_rfl) (by kernel_rfl) (fun _ _ _ h => h) (yieldsIf_load_mid (by kernel_rfl) _ _ rfl gD 0 (by go_simp) cs _ (fun u hu => hu.rng) Try.underlying36 rfl hinf) S0 ?_
    simp only [Act.put, List.setIfInBounds_toArray, List.set_cons_zero, List.set_cons_succ]
    refine wpAnyH_ready (rs := [1]) (by kernel_rfl) (by simp) ?_
    refine AllReadyH.cons (o := _) rfl (fun K hK => ?_) AllReadyH.nil
    go_simp
    refine (slotsW_any wr.drew (HWU.out _ B0)).mono ?_
    rintro e u1 ⟨v1, ss, rfl, hperm, hown, q1⟩
    have hml := List.length_mergeSort (le := fun x y : Int => decide (x ≤ y)) ss; have hLi := LB.ofInts hown hml; rw [HRL.out ss hperm] at hLi; have hLi := (hLi.rl mov_int).mv mov_int (Nat.le_refl _) Mv.any; obtain ⟨va, vc, rfl, _⟩ := hLi.form; have B1 := below_and B0 (Nat.le_refl _) q1; have S1 := HRU.out u1 B1; clear hown hml
    try go_simp
    refine hK.out _ _ S1 (fun hHeld => ?_)
    clear hK K hHeld
    have hDU1 := listD_any u1 cs low sls (HDU.out u1 B1)
    rw [hLS] at hDU1
    refine wpAnyH_ready (rs := [3]) (by kernel_rfl) (by simp) ?_
    refine AllReadyH.cons (o := _) rfl (fun K hK => ?_) AllReadyH.nil
    go_simp
    refine (hDU1).mono ?_
    rintro e u2 ⟨v2, rfl, hLm, q2⟩
    obtain ⟨vb, vd, rfl, _⟩ := hLm.form; have B2 := below_and B1 (Nat.le_refl _) q2; have S2 := HRU.out u2 B2; have hLi := hLi.mv mov_int q2.size (Mv.below q2)
    try go_simp
    refine hK.out _ _ S2 (fun hHeld => ?_)
    clear hK K hHeld
    refine wpAnyH_take (i := 4) (v := .slice va LS.length vc) rfl (by kernel_rfl) (by kernel_rfl) (by kernel_rfl) (fun _ _ _ h => h) (Or.inl ⟨by kernel_rfl, fun u hSu => by go_simp⟩) S2 ?_
    simp only [Act.put, List.setIfInBounds_toArray, List.set_cons_zero, List.set_cons_succ]
    refine wpAnyH_take (i := 5) (v := .slice vb LS.length vd) rfl (by kernel_rfl) (by kernel_rfl) (by kernel_rfl) (fun _ _ _ h => h) (Or.inl ⟨by kernel_rfl, fun u hSu => by go_simp⟩) S2 ?_
    simp only [Act.put, List.setIfInBounds_toArray, List.set_cons_zero, List.set_cons_succ]
    refine wpAnyH_done (by kernel_rfl) ?_ _
    clear hDU1 S0 S1 q1 q2 B0 B1
    go_upto_region 16 with fail
    have B3 : Below wr.heap.size wr u2.drew := below_and B2 (Nat.le_refl _) ⟨rfl, rfl, rfl, Nat.le_refl _, fun _ _ => rfl⟩
    have S3 := HRU.out _ B3
    have hLi := hLi.mv mov_int (w' := u2.drew) (Nat.le_refl _) (Mv.below ⟨rfl, rfl, rfl, Nat.le_refl _, fun _ _ => rfl⟩)
    have hLm := hLm.mv mov_int (w' := u2.drew) (Nat.le_refl _) (Mv.below ⟨rfl, rfl, rfl, Nat.le_refl _, fun _ _ => rfl⟩)
    try go_simp
    refine wp_region_held_drew (S := fun u => Row u gD 36 cs) (by kernel_rfl) S3 (fun hHeld => ?_)
    clear hHeld
    refine wpAnyH_take (i := 0) (v := .pointer (some ⟨b, 0, none⟩)) rfl (by kernel_rfl) (by kernel_rfl) (by kernel_rfl) (fun _ _ _ h => h) (Or.inl ⟨by kernel_rfl, fun u hSu => by go_simp⟩) S3 ?_
    simp only [Act.put, List.setIfInBounds_toArray, List.set_cons_zero, List.set_cons_succ]
    refine wpAnyH_take (i := 2) (v := .agg cs.toArray) rfl (by kernel_rfl) (by kernel_rfl) (by kernel_rfl) (fun _ _ _ h => h) (yieldsIf_load_mid (by kernel_rfl) _ _ rfl gD 0 (by go_simp) cs _ (fun u hu => hu.rng) Try.underlying36 rfl hinf) S3 ?_
    simp only [Act.put, List.setIfInBounds_toArray, List.set_cons_zero, List.set_cons_succ]
    have hPR := prepsW_any u2.drew (HWU.out _ B3)
    refine wpAnyH_ready (rs := [1]) (by kernel_rfl) (by simp) ?_
    refine AllReadyH.cons (o := _) rfl (fun K hK => ?_) AllReadyH.nil
    go_simp
    refine (hPR).mono ?_
    rintro e u4 ⟨v4, s4, rfl, hp4, hRp, q4⟩
    rw [HRL.out s4 hp4, HPE.out] at hRp; obtain ⟨pa, pc, rfl, _⟩ := hRp.form; have B4 := below_and B3 (Nat.le_refl _) q4; have S4 := HRU.out u4 B4; have hLi := hLi.mv mov_int (w' := u4) q4.size (Mv.below q4); have hLm := hLm.mv mov_int (w' := u4) q4.size (Mv.below q4)
    try go_simp
    refine hK.out _ _ S4 (fun hHeld => ?_)
    clear hK K hHeld
    have hDU1 := prepsD_any u4 cs low sls (HDU.out u4 B4)
    rw [hPS] at hDU1
    refine wpAnyH_ready (rs := [3]) (by kernel_rfl) (by simp) ?_
    refine AllReadyH.cons (o := _) rfl (fun K hK => ?_) AllReadyH.nil
    go_simp
    refine (hDU1).mono ?_
    rintro e u5 ⟨v5, rfl, hRq, q5⟩
    obtain ⟨pb, pd, rfl, _⟩ := hRq.form; have B5 := below_and B4 (Nat.le_refl _) q5; have S5 := HRU.out u5 B5; have hLi := hLi.mv mov_int q5.size (Mv.below q5); have hLm := hLm.mv mov_int q5.size (Mv.below q5); have hRp := hRp.mv mov_prep q5.size (Mv.below q5)
    try go_simp
    refine hK.out _ _ S5 (fun hHeld => ?_)
    clear hK K hHeld
    refine wpAnyH_take (i := 4) (v := .slice pa PS.length pc) rfl (by kernel_rfl) (by kernel_rfl) (by kernel_rfl) (fun _ _ _ h => h) (Or.inl ⟨by kernel_rfl, fun u hSu => by go_simp⟩) S5 ?_
    simp only [Act.put, List.setIfInBounds_toArray, List.set_cons_zero, List.set_cons_succ]
    refine wpAnyH_take (i := 5) (v := .slice pb PS.length pd) rfl (by kernel_rfl) (by kernel_rfl) (by kernel_rfl) (fun _ _ _ h => h) (Or.inl ⟨by kernel_rfl, fun u hSu => by go_simp⟩) S5 ?_
    simp only [Act.put, List.setIfInBounds_toArray, List.set_cons_zero, List.set_cons_succ]
    refine wpAnyH_done (by kernel_rfl) ?_ _
    clear hDU1 hPR S3 S4 S2 q4 q5 B2 B3 B4
    have n1 : ((LS.length : Int) != (LS.length : Int)) = false := by simp
    have n2 : ((PS.length : Int) != (PS.length : Int)) = false := by simp
    have hLl : (LS.length : Int) ≤ 9223372036854775807 := by
      by_cases h0 : 0 < LS.length
      · obtain ⟨_, _, _, _, h1, h2, _⟩ := hLi.at h0
        unfold maxLen at h2
        omega
      · omega
    go_wp2_with fail
    go_loopw [107] (fun j w2 => ∃ q : Nat, q ≤ LS.length ∧ j = .int .i64 q ∧ Below u5.heap.size u5 w2) (fun j _ => LS.length - (intOf j).toNat)
    case atStart => exact ⟨0, by omega, rfl, Below.refl _ _⟩
    case round =>
      rename World => wq
      obtain ⟨q, hq, rfl, hBq⟩ := hrel
      have Bq := below_and B5 (Nat.le_refl _) hBq
      by_cases hql : q < LS.length
      case neg =>
        have hp := hRp.mv mov_prep hBq.size (Mv.below hBq)
        have hq' := hRq.mv mov_prep hBq.size (Mv.below hBq)
        have hSR := sameReport_eq wq [.int .i64 0, .int .i64 0, .int .i64 0, .int .i64 0, .slice none 0 0, .slice none 0 0, .slice pa PS.length pc, .slice none 0 0] [.int .i64 0, .int .i64 0, .int .i64 0, .int .i64 0, .slice none 0 0, .slice none 0 0, .slice pb PS.length pd, .slice none 0 0] ((0, 0), 0, 0, [], [], PS, []) ⟨_, _, _, _, rfl, RT.nil _ _, RL.nil _ _ _ _, hp, RT.nil _ _⟩ ⟨_, _, _, _, rfl, RT.nil _ _, RL.nil _ _ _ _, hq', RT.nil _ _⟩
        go_wp2_with (first
          | (refine wl_buildW rfl _ 5 _ rfl (.slice pa PS.length pc) _ rfl (bldRep _ _ _ _) ?_)
          | (refine wl_buildW rfl _ 5 _ rfl (.slice pb PS.length pd) _ rfl (bldRep _ _ _ _) ?_)
          | (go_at_call 20; refine hSR.mono ?_; rintro e w9 ⟨rfl, b9⟩))
        go_ret
        exact ⟨rfl, below_and (below_and hB (Nat.le_refl _) Bq) (Nat.le_refl _) b9⟩
      obtain ⟨x, hx⟩ : ∃ x, LS[q]? = some x := ⟨_, List.getElem?_eq_getElem hql⟩
      have hxb := HLB.out x (List.mem_of_getElem? hx)
      obtain ⟨g, off, cap, hve, hc1, hc2, _, hg, hci⟩ := hLi.intAt hx
      obtain ⟨g2, off2, cap2, hve2, hc3, hc4, _, hg2, hci2⟩ := hLm.intAt hx
      injection hve with hv1 hv2 hv3
      injection hve2 with hv4 hv5 hv6
      subst hv1 hv3 hv4 hv6
      have HC1 := (show Hid (∀ u, Below wq.heap.size wq u → u.cell? ⟨g, off + q, none⟩ = some (.int .i64 x)) from fun u hu => hci u (by rw [hu.block g (by have := hBq.size; omega), hBq.block g hg]))
      have HC2 := (show Hid (∀ u, Below wq.heap.size wq u → u.cell? ⟨g2, off2 + q, none⟩ = some (.int .i64 x)) from fun u hu => hci2 u (by rw [hu.block g2 (by have := hBq.size; omega), hBq.block g2 hg2]))
      have dx : (x != x) = false := by simp
      have hq0 : decide ((q : Int) < (LS.length : Int)) = true := by simp; omega
      clear hv2 hv5 hci hci2 hx
      have B6 : Below wr.heap.size wr wq.drew := below_and Bq (Nat.le_refl _) ⟨rfl, rfl, rfl, Nat.le_refl _, fun _ _ => rfl⟩
      have D6 : Below wq.heap.size wq wq.drew := ⟨rfl, rfl, rfl, Nat.le_refl _, fun _ _ => rfl⟩
      have HSU := (show Hid (∀ u, Below wq.heap.size wq u → Row u gD 36 cs ∧ u.cell? ⟨g, off + q, none⟩ = some (.int .i64 x) ∧ u.cell? ⟨g2, off2 + q, none⟩ = some (.int .i64 x)) from fun u hu => ⟨HRU.out u (below_and Bq (Nat.le_refl _) hu), HC1.out u hu, HC2.out u hu⟩)
      have S6 := HSU.out _ D6
      clear HC1 HC2
      go_upto_region 22 with fail
      try go_simp
      refine wp_region_held_drew (S := fun u => Row u gD 36 cs ∧ u.cell? ⟨g, off + q, none⟩ = some (.int .i64 x) ∧ u.cell? ⟨g2, off2 + q, none⟩ = some (.int .i64 x)) (by kernel_rfl) S6 (fun hHeld => ?_)
      clear hHeld
      refine wpAnyH_take (i := 0) (v := .slice (some ⟨g, off, none⟩) LS.length vc) rfl (by kernel_rfl) (by kernel_rfl) (by kernel_rfl) (fun _ _ _ h => h) (Or.inl ⟨by kernel_rfl, fun u hSu => by go_simp⟩) S6 ?_
      simp only [Act.put, List.setIfInBounds_toArray, List.set_cons_zero, List.set_cons_succ]
      refine wpAnyH_take (i := 1) (v := .int .i64 q) rfl (by kernel_rfl) (by kernel_rfl) (by kernel_rfl) (fun _ _ _ h => h) (Or.inl ⟨by kernel_rfl, fun u hSu => by go_simp⟩) S6 ?_
      simp only [Act.put, List.setIfInBounds_toArray, List.set_cons_zero, List.set_cons_succ]
      refine wpAnyH_take (i := 2) (v := .pointer (some ⟨g, off + q, none⟩)) rfl (by kernel_rfl) (by kernel_rfl) (by kernel_rfl) (fun _ _ _ h => h) (Or.inl ⟨by kernel_rfl, fun u hSu => by go_simp⟩) S6 ?_
      simp only [Act.put, List.setIfInBounds_toArray, List.set_cons_zero, List.set_cons_succ]
      refine wpAnyH_take (i := 3) (v := .int .i64 x) rfl (by kernel_rfl) (by kernel_rfl) (by kernel_rfl) (fun _ _ _ h => h) (Or.inl ⟨by kernel_rfl, fun u hSu => by have hck := hSu.2.1; go_simp⟩) S6 ?_
      simp only [Act.put, List.setIfInBounds_toArray, List.set_cons_zero, List.set_cons_succ]
      refine wpAnyH_take (i := 4) (v := .slice (some ⟨g2, off2, none⟩) LS.length vd) rfl (by kernel_rfl) (by kernel_rfl) (by kernel_rfl) (fun _ _ _ h => h) (Or.inl ⟨by kernel_rfl, fun u hSu => by go_simp⟩) S6 ?_
      simp only [Act.put, List.setIfInBounds_toArray, List.set_cons_zero, List.set_cons_succ]
      refine wpAnyH_take (i := 5) (v := .int .i64 q) rfl (by kernel_rfl) (by kernel_rfl) (by kernel_rfl) (fun _ _ _ h => h) (Or.inl ⟨by kernel_rfl, fun u hSu => by go_simp⟩) S6 ?_
      simp only [Act.put, List.setIfInBounds_toArray, List.set_cons_zero, List.set_cons_succ]
      refine wpAnyH_take (i := 6) (v := .pointer (some ⟨g2, off2 + q, none⟩)) rfl (by kernel_rfl) (by kernel_rfl) (by kernel_rfl) (fun _ _ _ h => h) (Or.inl ⟨by kernel_rfl, fun u hSu => by go_simp⟩) S6 ?_
      simp only [Act.put, List.setIfInBounds_toArray, List.set_cons_zero, List.set_cons_succ]
      refine wpAnyH_take (i := 7) (v := .int .i64 x) rfl (by kernel_rfl) (by kernel_rfl) (by kernel_rfl) (fun _ _ _ h => h) (Or.inl ⟨by kernel_rfl, fun u hSu => by have hck := hSu.2.2; go_simp⟩) S6 ?_
      simp only [Act.put, List.setIfInBounds_toArray, List.set_cons_zero, List.set_cons_succ]
      refine wpAnyH_take (i := 8) (v := .bool false) rfl (by kernel_rfl) (by kernel_rfl) (by kernel_rfl) (fun _ _ _ h => h) (Or.inl ⟨by kernel_rfl, fun u hSu => by go_simp⟩) S6 ?_
      simp only [Act.put, List.setIfInBounds_toArray, List.set_cons_zero, List.set_cons_succ]
      refine wpAnyH_take (i := 9) (v := .bool false) rfl (by kernel_rfl) (by kernel_rfl) (by kernel_rfl) (fun _ _ _ h => h) (Or.inl ⟨by kernel_rfl, fun u hSu => by go_simp⟩) S6 ?_
      simp only [Act.put, List.setIfInBounds_toArray, List.set_cons_zero, List.set_cons_succ]
      refine wpAnyH_take (i := 10) (v := .pointer (some ⟨b, 0, none⟩)) rfl (by kernel_rfl) (by kernel_rfl) (by kernel_rfl) (fun _ _ _ h => h) (Or.inl ⟨by kernel_rfl, fun u hSu => by go_simp⟩) S6 ?_
      simp only [Act.put, List.setIfInBounds_toArray, List.set_cons_zero, List.set_cons_succ]
      refine wpAnyH_take (i := 11) (v := .slice (some ⟨g, off, none⟩) LS.length vc) rfl (by kernel_rfl) (by kernel_rfl) (by kernel_rfl) (fun _ _ _ h => h) (Or.inl ⟨by kernel_rfl, fun u hSu => by go_simp⟩) S6 ?_
      simp only [Act.put, List.setIfInBounds_toArray, List.set_cons_zero, List.set_cons_succ]
      refine wpAnyH_take (i := 12) (v := .int .i64 q) rfl (by kernel_rfl) (by kernel_rfl) (by kernel_rfl) (fun _ _ _ h => h) (Or.inl ⟨by kernel_rfl, fun u hSu => by go_simp⟩) S6 ?_
      simp only [Act.put, List.setIfInBounds_toArray, List.set_cons_zero, List.set_cons_succ]
      refine wpAnyH_take (i := 13) (v := .pointer (some ⟨g, off + q, none⟩)) rfl (by kernel_rfl) (by kernel_rfl) (by kernel_rfl) (fun _ _ _ h => h) (Or.inl ⟨by kernel_rfl, fun u hSu => by go_simp⟩) S6 ?_
      simp only [Act.put, List.setIfInBounds_toArray, List.set_cons_zero, List.set_cons_succ]
      refine wpAnyH_take (i := 14) (v := .int .i64 x) rfl (by kernel_rfl) (by kernel_rfl) (by kernel_rfl) (fun _ _ _ h => h) (Or.inl ⟨by kernel_rfl, fun u hSu => by have hck := hSu.2.1; go_simp⟩) S6 ?_
      simp only [Act.put, List.setIfInBounds_toArray, List.set_cons_zero, List.set_cons_succ]
      refine wpAnyH_take (i := 16) (v := .agg cs.toArray) rfl (by kernel_rfl) (by kernel_rfl) (by kernel_rfl) (fun _ _ _ h => h) (yieldsIf_load_mid (by kernel_rfl) _ _ rfl gD 0 (by go_simp) cs _ (fun u hu => hu.1.rng) Try.underlying36 rfl hinf) S6 ?_
      simp only [Act.put, List.setIfInBounds_toArray, List.set_cons_zero, List.set_cons_succ]
      refine wpAnyH_take (i := 17) (v := .slice (some ⟨g2, off2, none⟩) LS.length vd) rfl (by kernel_rfl) (by kernel_rfl) (by kernel_rfl) (fun _ _ _ h => h) (Or.inl ⟨by kernel_rfl, fun u hSu => by go_simp⟩) S6 ?_
      simp only [Act.put, List.setIfInBounds_toArray, List.set_cons_zero, List.set_cons_succ]
      refine wpAnyH_take (i := 18) (v := .int .i64 q) rfl (by kernel_rfl) (by kernel_rfl) (by kernel_rfl) (fun _ _ _ h => h) (Or.inl ⟨by kernel_rfl, fun u hSu => by go_simp⟩) S6 ?_
      simp only [Act.put, List.setIfInBounds_toArray, List.set_cons_zero, List.set_cons_succ]
      refine wpAnyH_take (i := 19) (v := .pointer (some ⟨g2, off2 + q, none⟩)) rfl (by kernel_rfl) (by kernel_rfl) (by kernel_rfl) (fun _ _ _ h => h) (Or.inl ⟨by kernel_rfl, fun u hSu => by go_simp⟩) S6 ?_
      simp only [Act.put, List.setIfInBounds_toArray, List.set_cons_zero, List.set_cons_succ]
      refine wpAnyH_take (i := 20) (v := .int .i64 x) rfl (by kernel_rfl) (by kernel_rfl) (by kernel_rfl) (fun _ _ _ h => h) (Or.inl ⟨by kernel_rfl, fun u hSu => by have hck := hSu.2.2; go_simp⟩) S6 ?_
      simp only [Act.put, List.setIfInBounds_toArray, List.set_cons_zero, List.set_cons_succ]
      refine wpAnyH_ready (rs := [15]) (by kernel_rfl) (by simp) ?_
      refine AllReadyH.cons (o := _) rfl (fun K hK => ?_) AllReadyH.nil
      go_simp
      refine (atW_any wq.drew (HWU.out _ B6) x).mono ?_
      rintro e u6 ⟨r1, rfl, hr1, q1⟩
      have D7 := below_and D6 (Nat.le_refl _) q1; have B7 := below_and B6 (Nat.le_refl _) q1; have S7 := HSU.out u6 D7
      try go_simp
      refine hK.out _ _ S7 (fun hHeld => ?_)
      clear hK K hHeld
      refine wpAnyH_ready (rs := [21]) (by kernel_rfl) (by simp) ?_
      refine AllReadyH.cons (o := _) rfl (fun K hK => ?_) AllReadyH.nil
      go_simp
      refine (refAtW_any u6 cs low sls (HDU.out u6 B7) x hxb).mono ?_
      rintro e u7 ⟨r2, rfl, hr2, q2⟩
      have D8 := below_and D7 (Nat.le_refl _) q2; have B8 := below_and B7 (Nat.le_refl _) q2; have S8 := HSU.out u7 D8; have hr2 := hr2 Any u7 (HDU.out u7 B8); rw [HAK.out x] at hr2
      try go_simp
      refine hK.out _ _ S8 (fun hHeld => ?_)
      clear hK K hHeld
      refine wpAnyH_ready (rs := [22]) (by kernel_rfl) (by simp) ?_
      refine AllReadyH.cons (o := _) rfl (fun K hK => ?_) AllReadyH.nil
      go_simp
      refine (sameSl_eq u7 r1 r2 _ (mov_sl _ _ _ _ _ _ hr1 q2.size (fun j hj hlt => ⟨q2.block j hlt, trivial⟩)) hr2).mono ?_
      rintro e u8 ⟨rfl, q3⟩
      have D9 := below_and D8 (Nat.le_refl _) q3; have S9 := HSU.out u8 D9
      try go_simp
      refine hK.out _ _ S9 (fun hHeld => ?_)
      clear hK K hHeld
      refine wpAnyH_take (i := 23) (v := .bool false) rfl (by kernel_rfl) (by kernel_rfl) (by kernel_rfl) (fun _ _ _ h => h) (Or.inl ⟨by kernel_rfl, fun u hSu => by go_simp⟩) S9 ?_
      simp only [Act.put, List.setIfInBounds_toArray, List.set_cons_zero, List.set_cons_succ]
      refine wpAnyH_take (i := 24) (v := .bool false) rfl (by kernel_rfl) (by kernel_rfl) (by kernel_rfl) (fun _ _ _ h => h) (Or.inl ⟨by kernel_rfl, fun u hSu => by go_simp⟩) S9 ?_
      simp only [Act.put, List.setIfInBounds_toArray, List.set_cons_zero, List.set_cons_succ]
      refine wpAnyH_done (by kernel_rfl) ?_ _
      have hBq8 := below_and hBq (Nat.le_refl _) D9
      go_wp2_with fail
      go_roundw
      case rel => exact ⟨q + 1, by omega, by go_num, hBq8⟩
      case measure => simp [intOf]; omega
end
end Go.Proofs.Ytjloehkolnjnhaa
