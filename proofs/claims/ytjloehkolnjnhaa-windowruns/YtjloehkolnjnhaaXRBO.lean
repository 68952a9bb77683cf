/- The laws' own 'do': Cut. Written by mk18o.py. -/
import Derived.Test.YtjloehkolnjnhaaXRBJ
set_option linter.unusedSimpArgs false
set_option linter.unusedVariables false
namespace Go.Proofs.Ytjloehkolnjnhaa
open Go.RowKit Oct Kvl Bal
set_option maxRecDepth 20000 in
set_option maxHeartbeats 8000000 in
theorem do_cut {G GD : Nat → Prop} {b m : Nat} {low : Int} {kn : List (Int × PSl)} (w : World) (h : Wnd G w b m low kn) (hg0 : Gd G b m w.heap.size) (cs : List Value) (ld : Int) (sls : List PSl) (hD : RDw GD w cs ld sls) (hG : ∀ j, GD j → NB b m j ∧ j < w.heap.size)
    (kd : Int) (bl : PBal) (k : Int) (hk : -9223372036854775808 ≤ k ∧ k ≤ 9223372036854775807) (xo xg : Value) (x : PReq) (hxo : RT GD w xo x.2.2.1) (hxg : RT GD w xg x.2.2.2) (xc : Value) (ct : List PVote) (hxc : RL RVote 2 GD w xc ct) (hzx : szQ x) (hzc : szL 32 szV ct) (d0 : (kd == 0) = false) (d1 : (kd == 1) = false) (d2 : (kd == 2) = false) (d3 : (kd == 3) = true) :
    Calls Try.prog 9 #[.pointer (some ⟨b, 0, none⟩), .agg cs.toArray, .agg #[.int .i64 kd, .int .i64 k, .int .i64 bl.1, .int .i64 bl.2, .int .i64 x.1, .int .i64 x.2.1, xo, xg, xc]] w fun e w' => ∃ cs', e = .returned (.tuple #[.agg cs'.toArray, .int .i64 0, .int .i64 0]) ∧ RDw GD w' cs' (dC ld sls k).1 (dC ld sls k).2 ∧ Wnd G w' b m (stC low kn k).1 (stC low kn k).2 ∧ Gw w w' b m := by
  obtain ⟨zc, hzl, hzv⟩ := zW_ex
  obtain ⟨w1, hw1⟩ : ∃ w1, w1 = w.alloc (.cells cs.toArray 36) := ⟨_, rfl⟩
  obtain ⟨w2, hw2⟩ : ∃ u, u = w1.alloc (.cells #[.int .i64 kd, .int .i64 k, .int .i64 bl.1, .int .i64 bl.2, .int .i64 x.1, .int .i64 x.2.1, xo, xg, xc] 41) := ⟨_, rfl⟩
  obtain ⟨w3, hw3⟩ : ∃ u, u = w2.alloc (.cells zc.toArray 36) := ⟨_, rfl⟩
  have e1 : w1.heap.size = w.heap.size + 1 := by rw [hw1]; simp
  have e2 : w2.heap.size = w.heap.size + 2 := by rw [hw2]; simp [e1]
  have B1 : Below w.heap.size w w1 := by rw [hw1]; exact below_alloc _ _
  have B2 : Below w1.heap.size w1 w2 := by rw [hw2]; exact below_alloc _ _
  have B3 : Below w2.heap.size w2 w3 := by rw [hw3]; exact below_alloc _ _
  have R1 : Row w1 w.heap.size 36 cs := by rw [hw1]; exact Row.new _ _ _
  have R2 : Row w2 (w.heap.size + 1) 41 [.int .i64 kd, .int .i64 k, .int .i64 bl.1, .int .i64 bl.2, .int .i64 x.1, .int .i64 x.2.1, xo, xg, xc] := by rw [hw2, ← e1]; exact Row.new _ _ _
  have RR : Row w3 (w.heap.size + 2) 36 zc := by rw [hw3, ← e2]; exact Row.new _ _ _
  have R1 := (R1.below B2).below B3
  have R2 := R2.below B3
  have B := below_and (below_and B1 (Nat.le_refl _) B2) (Nat.le_refl _) B3
  have hw : w3 = ((w.alloc (.cells cs.toArray 36)).alloc (.cells #[.int .i64 kd, .int .i64 k, .int .i64 bl.1, .int .i64 bl.2, .int .i64 x.1, .int .i64 x.2.1, xo, xg, xc] 41)).alloc (.cells zc.toArray 36) := by rw [hw3, hw2, hw1]
  have hN2 : w.heap.size + 2 < w3.heap.size := RR.lt
  clear hw1 hw2 hw3 e1 e2 B1 B2 B3
  have hlen := hD.len
  have hone := hD.one
  have hinf : (Try.prog.info? 36).map (·.size) = some cs.length := by rw [hlen]; exact Try.inf36
  have hzcs : zc.length = cs.length := by rw [hzl, hlen]
  have hlt := h.lt
  have hI := (show Hid (Wnd (fun j => G j ∧ j ≠ w.heap.size + 2) w b m low kn) from h.mv (Nat.le_refl _) rfl rfl (fun j hj hl => ⟨rfl, hj, by omega⟩))
  have hgI : ∀ N, w.heap.size + 2 < N → Gd (fun j => G j ∧ j ≠ w.heap.size + 2) b m N := fun N hN => ⟨fun j hj => hg0.nb j hj.1, fun j hj => ⟨hg0.fr j (by omega), by omega⟩⟩
  have HGI := (show Hid (∀ N, w.heap.size + 2 < N → Gd (fun j => G j ∧ j ≠ w.heap.size + 2) b m N) from hgI)
  have HGD := (show Hid (∀ j, GD j → NB b m j ∧ j < w.heap.size) from hG)
  clear hgI hG
  have HD := (show Hid (RDw GD w cs ld sls) from hD)
  clear hD
  have Z9 := Row.new w3 39 [.int .i64 0, .int .i64 0, .int .i64 0, .int .i64 0, .int .i64 0, .slice none 0 0, .slice none 0 0, .slice none 0 0]
  have BZ9 := below_alloc w3 (.cells #[.int .i64 0, .int .i64 0, .int .i64 0, .int .i64 0, .int .i64 0, .slice none 0 0, .slice none 0 0, .slice none 0 0] 39)
  have hone8 := one_RPrep (G := GD) (w := w) (r := [.int .i64 k, .int .i64 bl.1, .int .i64 bl.2, .int .i64 x.1, .int .i64 x.2.1, xo, xg, xc]) (x := (k, bl, x, ct)) ⟨xo, xg, xc, rfl, hxo, hxg, hxc⟩
  go_enter Try.func9, Try.ntmps9
  go_upto_region 1 with fail
  rw [← hw]
  clear hw
  go_upto_region 2 with (first
    | (refine wl_part rfl _ _ rfl (w.heap.size + 1) 1 rfl _ _ R2 [.int .i64 k, .int .i64 bl.1, .int .i64 bl.2, .int .i64 x.1, .int .i64 x.2.1, xo, xg, xc] rfl _ Try.underlying39 rfl (by kernel_rfl) ?_)
    | (refine wl_store rfl _ _ _ rfl w3.heap.size [.int .i64 k, .int .i64 bl.1, .int .i64 bl.2, .int .i64 x.1, .int .i64 x.2.1, xo, xg, xc] rfl rfl _ _ Z9 rfl (by kernel_rfl) hone8 ?_; intro w4 R9 g9))
  have R9 : Row w4 w3.heap.size 39 [.int .i64 k, .int .i64 bl.1, .int .i64 bl.2, .int .i64 x.1, .int .i64 x.2.1, xo, xg, xc] := R9.out
  have B4 : Below w3.heap.size w3 w4 := BZ9.trans (grown_below g9 BZ9.size (fun k hk => by cases hk; exact Nat.le_refl _))
  clear Z9 BZ9 g9 hone8
  have BB := below_and B (Nat.le_refl _) B4
  have R1 := R1.below B4
  have R2 := R2.below B4
  have RR := RR.below B4
  have hCp := copyReq_any w4 [.int .i64 x.1, .int .i64 x.2.1, xo, xg] x ⟨_, _, rfl, (hxo.mv Mv.any).mv (Mv.below BB), (hxg.mv Mv.any).mv (Mv.below BB)⟩ hzx
  go_upto_region 3 with (first
    | (refine wl_part rfl _ _ rfl w3.heap.size 3 rfl _ _ R9 [.int .i64 x.1, .int .i64 x.2.1, xo, xg] rfl _ Try.underlying30 rfl (by kernel_rfl) ?_)
    | (go_at_call 25; refine hCp.mono ?_; rintro e w5 ⟨rq, rfl, hrq, b5⟩; obtain ⟨yo, yg, rfl, y1, y2⟩ := hrq; have Z10 := Row.new w5 30 [.int .i64 0, .int .i64 0, .slice none 0 0, .slice none 0 0]; have BZ10 := below_alloc w5 (.cells #[.int .i64 0, .int .i64 0, .slice none 0 0, .slice none 0 0] 30))
    | (refine wl_store rfl _ _ _ rfl w5.heap.size [.int .i64 x.1, .int .i64 x.2.1, yo, yg] rfl rfl _ _ Z10 rfl (by kernel_rfl) (one4 y1.one y2.one) ?_; intro w6 R10 g10))
  have R10 : Row w6 w5.heap.size 30 [.int .i64 x.1, .int .i64 x.2.1, yo, yg] := R10.out
  have B6 : Below w5.heap.size w5 w6 := BZ10.trans (grown_below g10 BZ10.size (fun k hk => by cases hk; exact Nat.le_refl _))
  have b46 := below_and b5 (Nat.le_refl _) B6
  have y1 := (y1.mv Mv.any).mv (Mv.below B6)
  have y2 := (y2.mv Mv.any).mv (Mv.below B6)
  clear Z10 BZ10 g10 hCp
  have BB := below_and BB (Nat.le_refl _) b46
  have R1 := R1.below b46
  have R2 := R2.below b46
  have RR := RR.below b46
  have R9 := R9.below b46
  have hs5 := b5.size
  have hs4 := B4.size
  have hs6 := R10.lt
  have kf := R2.cell (j := 0) rfl
  have h6 := hI.out.below BB
  have hCu := cutP_any w6 h6 (HGI.out w6.heap.size (by omega)).nb k
  have k9 := R9.cell (j := 0) rfl
  clear hI h6 R10 y1 y2
  go_upto_region 15 with (go_at_call 23; refine hCu.mono ?_; rintro e w7 ⟨rfl, h7, g7⟩)
  have C1 := R1.gw g7 (by omega) (by omega)
  have C9 := R9.gw g7 (by omega) (by omega)
  have CR := RR.gw g7 (by omega) (by omega)
  have hD7 := (HD.out.mv BB.size (Mv.belowG BB)).mv g7.size (Gw.mv g7 (fun j hj => (HGD.out j hj).1))
  have hRC := refCutW_any w7 cs ld sls hD7 k hk
  have k97 := C9.cell (j := 0) rfl
  clear k9 hCu R1 R2 R9 RR
  go_wp2_with (first
    | (refine wl_load rfl _ _ rfl w.heap.size rfl _ _ C1 _ Try.underlying36 rfl hinf ?_)
    | (go_at_call 32; refine hRC.mono ?_; rintro e w8 ⟨cs2, rfl, hD2, b8⟩; have CV := CR.below b8; have hl2 := hD2.len; have ho2 := hD2.one; have hinf2 : (Try.prog.info? 36).map (·.size) = some cs2.length := by rw [hl2]; exact Try.inf36)
    | (refine wl_store rfl _ _ _ rfl (w.heap.size + 2) cs2 rfl rfl _ _ CV (by rw [hzl, hl2]) hinf2 ho2 ?_; intro w9 R9' g9))
  refine bodyPost_ret (results_cttW rfl _ _ (w.heap.size + 2) _ _ (0, 0) _ (by rfl) R9'.out Try.underlying36 rfl (by rw [List.size_toArray]; exact hinf2)) rfl ?_
  have hs7 := g7.size
  have h8 := h7.below b8
  have hD8 := hD2.mv b8.size (Mv.belowG b8)
  have hs9 := g9.size
  have hfin : Wnd G w9 b m (stC low kn k).1 (stC low kn k).2 := (h8.mv g9.size (g9.block b h8.lt.1 (fun e => by have := Option.some.inj e; omega)) (g9.block m h8.lt.2 (fun e => by have := Option.some.inj e; omega)) (Mv.boxG g9 (fun hh => hh.2 rfl))).mv (Nat.le_refl _) rfl rfl (fun j hj _ => ⟨rfl, hj.1⟩)
  have hdf : RDw GD w9 cs2 (dC ld sls k).1 (dC ld sls k).2 := hD8.mv g9.size (Mv.boxG g9 (fun hh => by have := (HGD.out _ hh).2; omega))
  exact ⟨cs2, rfl, hdf, hfin, (((Gw.bel BB).trans g7).trans (Gw.bel b8)).box g9 (by omega)⟩
end Go.Proofs.Ytjloehkolnjnhaa
