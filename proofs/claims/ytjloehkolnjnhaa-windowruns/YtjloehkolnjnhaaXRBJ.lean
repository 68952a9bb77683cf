/- The laws' own 'do': Vote. Written by mk18o.py. -/
import Derived.Test.YtjloehkolnjnhaaXRBF
import Derived.Test.YtjloehkolnjnhaaXRBG
import Derived.Test.YtjloehkolnjnhaaXRBH
import Derived.Test.YtjloehkolnjnhaaXRBI
import Derived.Test.YtjloehkolnjnhaaXRBA
import Derived.Test.YtjloehkolnjnhaaXRBB
import Derived.Test.YtjloehkolnjnhaaXRBC
import Derived.Test.YtjloehkolnjnhaaXRAQ
set_option linter.unusedSimpArgs false
set_option linter.unusedVariables false
namespace Go.Proofs.Ytjloehkolnjnhaa
section
open Go.RowKit Oct Kvl Bal
/-- Something done: a kind, and what is told with it. -/
abbrev PWAct := Int × PPrep
def RWAct (G : Nat → Prop) (w : World) (r : List Value) (a : PWAct) : Prop :=
  ∃ o g c, r = [.int .i64 a.1, .int .i64 a.2.1, .int .i64 a.2.2.1.1, .int .i64 a.2.2.1.2, .int .i64 a.2.2.2.1.1, .int .i64 a.2.2.2.1.2.1, o, g, c] ∧ RT G w o a.2.2.2.1.2.2.1 ∧ RT G w g a.2.2.2.1.2.2.2 ∧ RL RVote 2 G w c a.2.2.2.2
theorem results_cttW {P : Program} {fn : Func} {p t t2 : Tmp} {ty : TypeId} (h : fn.results = #[.cell p ty, .tmp t, .tmp t2]) (tmps : Array Value) (w : World) (g : Nat) (tt : TypeId) (cs : Array Value) (fr : Nat × Nat) (d : TypeDesc)
    (hp : tmps.getD p undef = .pointer (some ⟨g, 0, none⟩)) (hg : w.heap[g]? = some (.cells cs tt fr))
    (hu : P.underlying ty = some d) (hd : (match d with | .struct _ | .array _ _ => true | _ => false) = true) (hi : (P.info? ty).map (·.size) = some cs.size) :
    (results fn tmps).run P w = .ok (.tuple #[.agg cs, tmps.getD t undef, tmps.getD t2 undef]) w := by
  have hp' : tmps[p]?.getD undef = .pointer (some ⟨g, 0, none⟩) := by simpa using hp
  simp [results, h, hp', asAddr, run_loadVar_row w g tt ty cs fr d hg hu hd hi]
/-- What comes of it in the program's window, and in the document's. -/
def stA (low : Int) (kn : List (Int × PSl)) (a : PWAct) : (Int × List (Int × PSl)) × Int :=
  if a.1 = 0 then ((low, (stV low kn a.2.2.1 a.2.1 a.2.2.2.1).1), (stV low kn a.2.2.1 a.2.1 a.2.2.2.1).2)
  else if a.1 = 1 then ((low, (stP low kn a.2.2.1 a.2.1 a.2.2.2.1 a.2.2.2.2).1), (stP low kn a.2.2.1 a.2.1 a.2.2.2.1 a.2.2.2.2).2)
  else if a.1 = 2 then ((low, (stD low kn a.2.2.1 a.2.1 a.2.2.2.1 a.2.2.2.2).1), (stD low kn a.2.2.1 a.2.1 a.2.2.2.1 a.2.2.2.2).2)
  else if a.1 = 3 then (stC low kn a.2.1, 0) else ((low, kn), 0)
def stB (low : Int) (sls : List PSl) (a : PWAct) : (Int × List PSl) × Int :=
  if a.1 = 0 then ((low, (dV low sls a.2.2.1 a.2.1 a.2.2.2.1).1), (dV low sls a.2.2.1 a.2.1 a.2.2.2.1).2)
  else if a.1 = 1 then ((low, (dP low sls a.2.2.1 a.2.1 a.2.2.2.1 a.2.2.2.2).1), (dP low sls a.2.2.1 a.2.1 a.2.2.2.1 a.2.2.2.2).2)
  else if a.1 = 2 then ((low, (dD low sls a.2.2.1 a.2.1 a.2.2.2.1 a.2.2.2.2).1), (dD low sls a.2.2.1 a.2.1 a.2.2.2.1 a.2.2.2.2).2)
  else if a.1 = 3 then (dC low sls a.2.1, 0) else ((low, sls), 0)
end
section
open Go.RowKit Oct Kvl Bal
theorem Row.part {w : World} {b : Nat} {t : TypeId} {xs : List Value} (h : Row w b t xs) (off : Nat) (cs : List Value) (hcs : (xs.drop off).take cs.length = cs) : w.rangeAt b off cs := fun j v hj => by
  have := h.src off cs.length j v (by rw [hcs]; exact hj)
  rw [Addr.add_mid] at this
  exact this
/-- A struct is stored, at a step of a region that draws its order. -/
theorem step_storeR {P : Program} {w : World} {ops : Array Oper} {o : Oper} {a : Act} {K : Act → World → Prop} {Q : Exit → Act → World → Prop} {E : Prop} (hgd : o.guard = none) (ty : TypeId) (x y : Operand) (ho : o.op = .store ty x y)
    (b : Nat) (ys : List Value) (hx : a.eval x = .pointer (some ⟨b, 0, none⟩)) (hy : a.eval y = .agg ys.toArray) (t : TypeId) (xs : List Value) (h : Row w b t xs) (hl : xs.length = ys.length)
    (hi : (P.info? ty).map (·.size) = some ys.length) (h1 : ∀ v ∈ ys, v.oneCell' = true) (hdst : o.dst = none) (k : ∀ w', Row w' b t ys → w.grownBy w' (some b) → K a w') : if Region.wanted o (yielded ops a.tmps) = true then Oper.wp P o a w K Q else E := by
  have hw : Region.wanted o (yielded ops a.tmps) = true := by simp [Region.wanted, hgd]
  rw [if_pos hw]
  unfold Oper.wp execOp
  simp only [ho, hx, hy, Sem.run_bind, Sem.run_pure, Result.andThen_ok, h.store ty ys hl hi h1]
  have e : a.put o.dst undef = a := by rw [hdst]; rfl
  show K (a.put o.dst undef) _
  rw [e]
  exact k _ (h.setRow ys) (grown_setRow _ _ _)
set_option maxRecDepth 20000 in
set_option maxHeartbeats 8000000 in
theorem do_vote {G GD : Nat → Prop} {b m : Nat} {low : Int} {kn : List (Int × PSl)} (w : World) (h : Wnd G w b m low kn) (hg0 : Gd G b m w.heap.size) (cs : List Value) (ld : Int) (sls : List PSl) (hD : RDw GD w cs ld sls) (hG : ∀ j, GD j → NB b m j ∧ j < w.heap.size)
    (kd : Int) (bl : PBal) (k : Int) (hk : -9223372036854775808 ≤ k ∧ k ≤ 9223372036854775807) (xo xg : Value) (x : PReq) (hxo : RT GD w xo x.2.2.1) (hxg : RT GD w xg x.2.2.2) (xc : Value) (ct : List PVote) (hxc : RL RVote 2 GD w xc ct) (hzx : szQ x) (hzc : szL 32 szV ct) (d0 : (kd == 0) = true) (d1 : (kd == 1) = false) (d2 : (kd == 2) = false) (d3 : (kd == 3) = false) :
    Calls Try.prog 9 #[.pointer (some ⟨b, 0, none⟩), .agg cs.toArray, .agg #[.int .i64 kd, .int .i64 k, .int .i64 bl.1, .int .i64 bl.2, .int .i64 x.1, .int .i64 x.2.1, xo, xg, xc]] w fun e w' => ∃ cs', e = .returned (.tuple #[.agg cs'.toArray, .int .i64 (stV low kn bl k x).2, .int .i64 (dV ld sls bl k x).2]) ∧ RDw GD w' cs' ld (dV ld sls bl k x).1 ∧ Wnd G w' b m low (stV low kn bl k x).1 ∧ Gw w w' b m := by
  obtain ⟨zc, hzl, hzv⟩ := zW_ex
  obtain ⟨w1, hw1⟩ : ∃ w1, w1 = w.alloc (.cells cs.toArray 36) := ⟨_, rfl⟩
  obtain ⟨w2, hw2⟩ : ∃ u, u = w1.alloc (.cells #[.int .i64 kd, .int .i64 k, .int .i64 bl.1, .int .i64 bl.2, .int .i64 x.1, .int .i64 x.2.1, xo, xg, xc] 41) := ⟨_, rfl⟩
  obtain ⟨w3, hw3⟩ : ∃ u, u = w2.alloc (.cells zc.toArray 36) := ⟨_, rfl⟩
  have e1 : w1.heap.size = w.heap.size + 1 := by rw [hw1]; simp
  have e2 : w2.heap.size = w.heap.size + 2 := by rw [hw2]; simp [e1]
  have B1 : Below w.heap.size w w1 := by rw [hw1]; exact below_alloc _ _
  have B2 : Below w1.heap.size w1 w2 := by rw [hw2]; exact below_alloc _ _
  have B3 : Below w2.heap.size w2 w3 := by rw [hw3]; exact below_alloc _ _
  have R1 : Row w1 w.heap.size 36 cs := by rw [hw1]; exact Row.new _ _ _
  have R2 : Row w2 (w.heap.size + 1) 41 [.int .i64 kd, .int .i64 k, .int .i64 bl.1, .int .i64 bl.2, .int .i64 x.1, .int .i64 x.2.1, xo, xg, xc] := by rw [hw2, ← e1]; exact Row.new _ _ _
  have RR : Row w3 (w.heap.size + 2) 36 zc := by rw [hw3, ← e2]; exact Row.new _ _ _
  have R1 := (R1.below B2).below B3
  have R2 := R2.below B3
  have B := below_and (below_and B1 (Nat.le_refl _) B2) (Nat.le_refl _) B3
  have hw : w3 = ((w.alloc (.cells cs.toArray 36)).alloc (.cells #[.int .i64 kd, .int .i64 k, .int .i64 bl.1, .int .i64 bl.2, .int .i64 x.1, .int .i64 x.2.1, xo, xg, xc] 41)).alloc (.cells zc.toArray 36) := by rw [hw3, hw2, hw1]
  have hN2 : w.heap.size + 2 < w3.heap.size := RR.lt
  clear hw1 hw2 hw3 e1 e2 B1 B2 B3
  have hlen := hD.len
  have hone := hD.one
  have hinf : (Try.prog.info? 36).map (·.size) = some cs.length := by rw [hlen]; exact Try.inf36
  have hzcs : zc.length = cs.length := by rw [hzl, hlen]
  have hlt := h.lt
  have hI := (show Hid (Wnd (fun j => G j ∧ j ≠ w.heap.size + 2) w b m low kn) from h.mv (Nat.le_refl _) rfl rfl (fun j hj hl => ⟨rfl, hj, by omega⟩))
  have hgI : ∀ N, w.heap.size + 2 < N → Gd (fun j => G j ∧ j ≠ w.heap.size + 2) b m N := fun N hN => ⟨fun j hj => hg0.nb j hj.1, fun j hj => ⟨hg0.fr j (by omega), by omega⟩⟩
  have HGI := (show Hid (∀ N, w.heap.size + 2 < N → Gd (fun j => G j ∧ j ≠ w.heap.size + 2) b m N) from hgI)
  have HGD := (show Hid (∀ j, GD j → NB b m j ∧ j < w.heap.size) from hG)
  clear hgI hG
  have HD := (show Hid (RDw GD w cs ld sls) from hD)
  clear hD
  have Z9 := Row.new w3 39 [.int .i64 0, .int .i64 0, .int .i64 0, .int .i64 0, .int .i64 0, .slice none 0 0, .slice none 0 0, .slice none 0 0]
  have BZ9 := below_alloc w3 (.cells #[.int .i64 0, .int .i64 0, .int .i64 0, .int .i64 0, .int .i64 0, .slice none 0 0, .slice none 0 0, .slice none 0 0] 39)
  have hone8 := one_RPrep (G := GD) (w := w) (r := [.int .i64 k, .int .i64 bl.1, .int .i64 bl.2, .int .i64 x.1, .int .i64 x.2.1, xo, xg, xc]) (x := (k, bl, x, ct)) ⟨xo, xg, xc, rfl, hxo, hxg, hxc⟩
  go_enter Try.func9, Try.ntmps9
  go_upto_region 1 with fail
  rw [← hw]
  clear hw
  go_upto_region 2 with (first
    | (refine wl_part rfl _ _ rfl (w.heap.size + 1) 1 rfl _ _ R2 [.int .i64 k, .int .i64 bl.1, .int .i64 bl.2, .int .i64 x.1, .int .i64 x.2.1, xo, xg, xc] rfl _ Try.underlying39 rfl (by kernel_rfl) ?_)
    | (refine wl_store rfl _ _ _ rfl w3.heap.size [.int .i64 k, .int .i64 bl.1, .int .i64 bl.2, .int .i64 x.1, .int .i64 x.2.1, xo, xg, xc] rfl rfl _ _ Z9 rfl (by kernel_rfl) hone8 ?_; intro w4 R9 g9))
  have R9 : Row w4 w3.heap.size 39 [.int .i64 k, .int .i64 bl.1, .int .i64 bl.2, .int .i64 x.1, .int .i64 x.2.1, xo, xg, xc] := R9.out
  have B4 : Below w3.heap.size w3 w4 := BZ9.trans (grown_below g9 BZ9.size (fun k hk => by cases hk; exact Nat.le_refl _))
  clear Z9 BZ9 g9 hone8
  have BB := below_and B (Nat.le_refl _) B4
  have R1 := R1.below B4
  have R2 := R2.below B4
  have RR := RR.below B4
  have hCp := copyReq_any w4 [.int .i64 x.1, .int .i64 x.2.1, xo, xg] x ⟨_, _, rfl, (hxo.mv Mv.any).mv (Mv.below BB), (hxg.mv Mv.any).mv (Mv.below BB)⟩ hzx
  go_upto_region 3 with (first
    | (refine wl_part rfl _ _ rfl w3.heap.size 3 rfl _ _ R9 [.int .i64 x.1, .int .i64 x.2.1, xo, xg] rfl _ Try.underlying30 rfl (by kernel_rfl) ?_)
    | (go_at_call 25; refine hCp.mono ?_; rintro e w5 ⟨rq, rfl, hrq, b5⟩; obtain ⟨yo, yg, rfl, y1, y2⟩ := hrq; have Z10 := Row.new w5 30 [.int .i64 0, .int .i64 0, .slice none 0 0, .slice none 0 0]; have BZ10 := below_alloc w5 (.cells #[.int .i64 0, .int .i64 0, .slice none 0 0, .slice none 0 0] 30))
    | (refine wl_store rfl _ _ _ rfl w5.heap.size [.int .i64 x.1, .int .i64 x.2.1, yo, yg] rfl rfl _ _ Z10 rfl (by kernel_rfl) (one4 y1.one y2.one) ?_; intro w6 R10 g10))
  have R10 : Row w6 w5.heap.size 30 [.int .i64 x.1, .int .i64 x.2.1, yo, yg] := R10.out
  have B6 : Below w5.heap.size w5 w6 := BZ10.trans (grown_below g10 BZ10.size (fun k hk => by cases hk; exact Nat.le_refl _))
  have b46 := below_and b5 (Nat.le_refl _) B6
  have y1 := (y1.mv Mv.any).mv (Mv.below B6)
  have y2 := (y2.mv Mv.any).mv (Mv.below B6)
  clear Z10 BZ10 g10 hCp
  have BB := below_and BB (Nat.le_refl _) b46
  have R1 := R1.below b46
  have R2 := R2.below b46
  have RR := RR.below b46
  have R9 := R9.below b46
  have hs5 := b5.size
  have hs4 := B4.size
  have hs6 := R10.lt
  have kf := R2.cell (j := 0) rfl
  have hD6 := HD.out.mv BB.size (Mv.belowG BB)
  have hxo6 := hxo.mv (Mv.belowG BB); have hxg6 := hxg.mv (Mv.belowG BB); have hxc6 := hxc.mv mov_vote BB.size (Mv.belowG BB)
  have hRV := refVoteW_any w6 cs ld sls hD6 bl k xo xg x hxo6 hxg6 hk
  have k9 := R9.cell (j := 0) rfl
  obtain ⟨fd, hfd⟩ : ∃ fd, fd = (dV ld sls bl k x).2 := ⟨_, rfl⟩
  rw [← hfd] at hRV
  replace hfd := (show Hid _ from hfd)
  go_upto_region 6 with (first
    | (refine wl_load rfl _ _ rfl w.heap.size rfl _ _ R1 _ Try.underlying36 rfl hinf ?_)
    | (refine wl_part rfl _ _ rfl w3.heap.size 1 rfl _ _ R9 [.int .i64 bl.1, .int .i64 bl.2] rfl _ Try.underlying27 rfl (by kernel_rfl) ?_)
    | (refine wl_part rfl _ _ rfl w3.heap.size 3 rfl _ _ R9 [.int .i64 x.1, .int .i64 x.2.1, xo, xg] rfl _ Try.underlying30 rfl (by kernel_rfl) ?_)
    | (refine wl_load rfl _ _ rfl w3.heap.size rfl _ _ R9 _ Try.underlying39 rfl (by kernel_rfl) ?_)
    | (go_at_call 26; refine hRV.mono ?_; rintro e w7 ⟨cs2, rfl, hD2, b7⟩; have hl2 := hD2.len; have ho2 := hD2.one; have hinf2 : (Try.prog.info? 36).map (·.size) = some cs2.length := (by rw [hl2]; exact Try.inf36); have Z11 := Row.new w7 36 zc; have BZ11 := below_alloc w7 (.cells zc.toArray 36))
    | (refine wl_store rfl _ _ _ rfl w7.heap.size cs2 rfl rfl _ _ Z11 (by rw [hzl, hl2]) hinf2 ho2 ?_; intro w8 R11 g11))
  have R11 := R11.out
  have b78 : Below w7.heap.size w7 w8 := BZ11.trans (grown_below g11 BZ11.size (fun k hk => by cases hk; exact Nat.le_refl _))
  have b68 := below_and b7 (Nat.le_refl _) b78
  have B8 := below_and BB (Nat.le_refl _) b68
  clear Z11 BZ11 g11 hRV k9 b78
  have R9 := R9.below b68
  have R10 := R10.below b68
  have RR := RR.below b68
  have hD8 := hD2.mv b68.size (Mv.belowG b68)
  have y1 := y1.mv (Mv.below b68); have y2 := y2.mv (Mv.below b68)
  have h8 := hI.out.below B8
  have hs8 := B8.size
  have hs7 := b7.size
  have hs68 := b68.size
  have k9 := R9.cell (j := 0) rfl
  clear R1 R2 kf hI d0 d1 d2 d3
  try go_simp
  refine wp_region_held_drew (S := fun u => Row u w7.heap.size 36 cs2 ∧ Row u w3.heap.size 39 [.int .i64 k, .int .i64 bl.1, .int .i64 bl.2, .int .i64 x.1, .int .i64 x.2.1, xo, xg, xc] ∧ Row u w5.heap.size 30 [.int .i64 x.1, .int .i64 x.2.1, yo, yg]) (by kernel_rfl) ⟨R11, R9, R10⟩ (fun hS6 => ?_)
  refine wpAnyH_take (i := 0) (v := .agg cs2.toArray) rfl (by kernel_rfl) (by kernel_rfl) (by kernel_rfl) (fun _ _ _ h => h) (yieldsIf_load_mid (by kernel_rfl) _ _ rfl w7.heap.size 0 rfl cs2 _ (fun u hu => hu.1.rng) Try.underlying36 rfl hinf2) hS6 ?_
  simp only [Act.put, List.setIfInBounds_toArray, List.set_cons_zero, List.set_cons_succ]
  refine wpAnyH_take (i := 1) (v := .pointer (some ⟨b, 0, none⟩)) rfl (by kernel_rfl) (by kernel_rfl) (by kernel_rfl) (fun _ _ _ h => h) (Or.inl ⟨by kernel_rfl, fun u hSu => by go_simp⟩) hS6 ?_
  simp only [Act.put, List.setIfInBounds_toArray, List.set_cons_zero, List.set_cons_succ]
  refine wpAnyH_take (i := 2) (v := .pointer (some ⟨w3.heap.size, 1, none⟩)) rfl (by kernel_rfl) (by kernel_rfl) (by kernel_rfl) (fun _ _ _ h => h) (Or.inl ⟨by kernel_rfl, fun u hSu => by go_simp⟩) hS6 ?_
  simp only [Act.put, List.setIfInBounds_toArray, List.set_cons_zero, List.set_cons_succ]
  refine wpAnyH_take (i := 3) (v := .agg #[.int .i64 bl.1, .int .i64 bl.2]) rfl (by kernel_rfl) (by kernel_rfl) (by kernel_rfl) (fun _ _ _ h => h) (yieldsIf_load_mid (by kernel_rfl) _ _ rfl w3.heap.size 1 rfl [.int .i64 bl.1, .int .i64 bl.2] _ (fun u hu => hu.2.1.part 1 _ rfl) Try.underlying27 rfl (by kernel_rfl)) hS6 ?_
  simp only [Act.put, List.setIfInBounds_toArray, List.set_cons_zero, List.set_cons_succ]
  refine wpAnyH_take (i := 4) (v := .pointer (some ⟨w3.heap.size, 0, none⟩)) rfl (by kernel_rfl) (by kernel_rfl) (by kernel_rfl) (fun _ _ _ h => h) (Or.inl ⟨by kernel_rfl, fun u hSu => by go_simp⟩) hS6 ?_
  simp only [Act.put, List.setIfInBounds_toArray, List.set_cons_zero, List.set_cons_succ]
  refine wpAnyH_take (i := 5) (v := .int .i64 k) rfl (by kernel_rfl) (by kernel_rfl) (by kernel_rfl) (fun _ _ _ h => h) (Or.inl ⟨by kernel_rfl, fun u hSu => by have q1 := hSu.2.1.cell (j := 0) rfl; go_simp⟩) hS6 ?_
  simp only [Act.put, List.setIfInBounds_toArray, List.set_cons_zero, List.set_cons_succ]
  refine wpAnyH_take (i := 6) (v := .agg #[.int .i64 x.1, .int .i64 x.2.1, yo, yg]) rfl (by kernel_rfl) (by kernel_rfl) (by kernel_rfl) (fun _ _ _ h => h) (yieldsIf_load_mid (by kernel_rfl) _ _ rfl w5.heap.size 0 rfl [.int .i64 x.1, .int .i64 x.2.1, yo, yg] _ (fun u hu => hu.2.2.rng) Try.underlying30 rfl (by kernel_rfl)) hS6 ?_
  simp only [Act.put, List.setIfInBounds_toArray, List.set_cons_zero, List.set_cons_succ]
  refine wpAnyH_take (i := 8) (v := .int .i64 fd) rfl (by kernel_rfl) (by kernel_rfl) (by kernel_rfl) (fun _ _ _ h => h) (Or.inl ⟨by kernel_rfl, fun u hSu => by go_simp⟩) hS6 ?_
  simp only [Act.put, List.setIfInBounds_toArray, List.set_cons_zero, List.set_cons_succ]
  have hdw : Below w8.heap.size w8 w8.drew := ⟨rfl, rfl, rfl, Nat.le_refl _, fun _ _ => rfl⟩
  have hPr := voteW_any w8.drew (h8.below hdw) (HGI.out _ (show w.heap.size + 2 < w8.heap.size by omega)) bl k [.int .i64 x.1, .int .i64 x.2.1, yo, yg] x ⟨_, _, rfl, y1.mv (Mv.below hdw), y2.mv (Mv.below hdw)⟩ hzx
  refine wpAnyH_ready (rs := [7]) (by kernel_rfl) (by simp) ?_
  refine AllReadyH.cons (o := _) rfl (fun K hK => ?_) AllReadyH.nil
  go_simp
  refine hPr.mono ?_
  rintro e w9 ⟨rfl, h9, g9⟩
  have g9 := grown_drew g9
  try go_simp
  have R11 := R11.grown g9 (fun e => by have := Option.some.inj e; omega)
  have R9 := R9.grown g9 (fun e => by have := Option.some.inj e; omega)
  have R10 := R10.grown g9 (fun e => by have := Option.some.inj e; omega)
  have RR := RR.grown g9 (fun e => by have := Option.some.inj e; omega)
  refine hK.out _ _ ⟨R11, R9, R10⟩ (fun hS6 => ?_)
  clear hK K hPr
  refine wpAnyH_ready (rs := [9]) (by kernel_rfl) (by simp) ?_
  refine AllReadyH.cons (o := _) rfl (fun K hK => ?_) AllReadyH.nil
  refine step_storeR rfl _ _ _ rfl (w.heap.size + 2) cs2 rfl rfl _ _ RR (by rw [hzl, hl2]) hinf2 ho2 rfl (fun w10 R10' g10 => ?_)
  have R11 := R11.grown g10 (fun e => by have := Option.some.inj e; omega)
  have R9 := R9.grown g10 (fun e => by have := Option.some.inj e; omega)
  have R10 := R10.grown g10 (fun e => by have := Option.some.inj e; omega)
  refine hK.out _ _ ⟨R11, R9, R10⟩ (fun hS6 => ?_)
  clear hK K
  refine wpAnyH_ready (rs := [10]) (by kernel_rfl) (by simp) ?_
  refine AllReadyH.cons (o := _) rfl (fun K hK => ?_) AllReadyH.nil
  go_simp
  refine hK.out _ _ ⟨R11, R9, R10⟩ (fun hS6 => ?_)
  clear hK K
  refine wpAnyH_ready (rs := [11]) (by kernel_rfl) (by simp) ?_
  refine AllReadyH.cons (o := _) rfl (fun K hK => ?_) AllReadyH.nil
  go_simp
  refine hK.out _ _ ⟨R11, R9, R10⟩ (fun hS6 => ?_)
  clear hK K
  refine wpAnyH_done (by kernel_rfl) ?_ _
  go_wp2_with fail
  refine bodyPost_ret (results_cttW rfl _ _ (w.heap.size + 2) _ _ (0, 0) _ (by rfl) R10' Try.underlying36 rfl (by rw [List.size_toArray]; exact hinf2)) rfl ?_
  have hs9 := g9.size
  have hs10 := g10.size
  have hfin : Wnd G w10 b m low (stV low kn bl k x).1 := (h9.mv g10.size (g10.block b h9.lt.1 (fun e => by have := Option.some.inj e; omega)) (g10.block m h9.lt.2 (fun e => by have := Option.some.inj e; omega)) (Mv.boxG g10 (fun hh => hh.2 rfl))).mv (Nat.le_refl _) rfl rfl (fun j hj _ => ⟨rfl, hj.1⟩)
  have hdf : RDw GD w10 cs2 ld (dV ld sls bl k x).1 := (hD8.mv g9.size (Mv.nb (fun j hj => (HGD.out j hj).1) g9)).mv g10.size (Mv.boxG g10 (fun hh => by have := (HGD.out _ hh).2; omega))
  exact ⟨cs2, by rw [← hfd.out]; rfl, hdf, hfin, ((Gw.bel B8).trans (Gw.ofm g9)).box g10 (by omega)⟩
end
end Go.Proofs.Ytjloehkolnjnhaa
