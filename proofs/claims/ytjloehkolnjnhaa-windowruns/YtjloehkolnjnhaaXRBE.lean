/- The document's windows: with, New. Written by mk18e.py. -/
import Derived.Test.YtjloehkolnjnhaaXRAZ
set_option linter.unusedSimpArgs false
set_option linter.unusedVariables false
namespace Go.Proofs.Ytjloehkolnjnhaa
open Go.RowKit Oct Kvl Bal
/-- A zero window's cells. -/
theorem zW_ex : ∃ zc : List Value, zc.length = 369 ∧ ∀ w, (zeroValue 36).run Try.prog w = .ok (.agg zc.toArray) w := ⟨.int .i64 0 :: zRest, by kernel_rfl, fun w => by kernel_rfl⟩
theorem bldW (q : Int) (w : World) : (Instr.build 36 #[(0, .int .i64 q)]).run Try.prog w = .ok (.agg (Value.int .i64 q :: zRest).toArray) w := by kernel_rfl
theorem wl_buildW {P : Program} {ops : Array Oper} {rest : List Oper} {o : Oper} {a : Act} {w : World} {Q : Exit → Act → World → Prop} (hgd : o.guard = none) (ty : TypeId) (i : Nat) (x : Operand) (ho : o.op = .build ty #[(i, x)])
    (u v : Value) (hx : a.eval x = u) (hrun : (Instr.build ty #[(i, u)]).run P w = .ok v w) (k : wpList P ops Q rest (a.put o.dst v) w) : wpList P ops Q (o :: rest) a w :=
  wpList_plain hgd fun _ hK => by
    subst hx
    unfold Oper.wp execOp
    have e : (#[(i, x)] : Array (Nat × Operand)).map (fun p => (p.1, a.eval p.2)) = #[(i, a.eval x)] := by simp
    simp only [ho, e, Sem.run_bind, Sem.run_pure, Result.andThen_ok, hrun]
    exact hK _ _ k
theorem results_ctW {P : Program} {fn : Func} {p t : Tmp} {ty : TypeId} (h : fn.results = #[.cell p ty, .tmp t]) (tmps : Array Value) (w : World) (g : Nat) (tt : TypeId) (cs : Array Value) (fr : Nat × Nat) (d : TypeDesc)
    (hp : tmps.getD p undef = .pointer (some ⟨g, 0, none⟩)) (hg : w.heap[g]? = some (.cells cs tt fr))
    (hu : P.underlying ty = some d) (hd : (match d with | .struct _ | .array _ _ => true | _ => false) = true) (hi : (P.info? ty).map (·.size) = some cs.size) :
    (results fn tmps).run P w = .ok (.tuple #[.agg cs, tmps.getD t undef]) w := by
  have hp' : tmps[p]?.getD undef = .pointer (some ⟨g, 0, none⟩) := by simpa using hp
  simp [results, h, hp', asAddr, run_loadVar_row w g tt ty cs fr d hg hu hd hi]
set_option maxRecDepth 20000 in
set_option maxHeartbeats 8000000 in
theorem refWithW_any {G : Nat → Prop} (w : World) (cs : List Value) (low : Int) (sls : List PSl) (h : RDw G w cs low sls) (k : Int) (hin : inW low k = true) (r : List Value) (s : PSl) (hr : RSl G w r s) :
    Calls Try.prog 44 #[.agg cs.toArray, .int .i64 k, .agg r.toArray] w fun e w' => ∃ cs', e = .returned (.agg cs'.toArray) ∧ (∀ (G' : Nat → Prop) (u : World), RDw G' u cs low sls → RSl G' u r s → RDw G' u cs' low (setD low sls k s)) ∧ Below w.heap.size w w' := by
  obtain ⟨zc, hzl, hzv⟩ := zW_ex
  obtain ⟨w1, hw1⟩ : ∃ w1, w1 = w.alloc (.cells cs.toArray 36) := ⟨_, rfl⟩
  obtain ⟨w2, hw2⟩ : ∃ w2, w2 = w1.alloc (.cells r.toArray 33) := ⟨_, rfl⟩
  obtain ⟨w3, hw3⟩ : ∃ w3, w3 = w2.alloc (.cells zc.toArray 36) := ⟨_, rfl⟩
  have e1 : w1.heap.size = w.heap.size + 1 := by rw [hw1]; simp
  have e2 : w2.heap.size = w.heap.size + 2 := by rw [hw2]; simp [e1]
  have B1 : Below w.heap.size w w1 := by rw [hw1]; exact below_alloc _ _
  have B2 : Below w1.heap.size w1 w2 := by rw [hw2]; exact below_alloc _ _
  have B3 : Below w2.heap.size w2 w3 := by rw [hw3]; exact below_alloc _ _
  have B := below_and (below_and B1 (Nat.le_refl _) B2) (Nat.le_refl _) B3
  have R1 : Row w1 w.heap.size 36 cs := by rw [hw1]; exact Row.new _ _ _
  have R1 := (R1.below B2).below B3
  have R2 : Row w2 (w.heap.size + 1) 33 r := by rw [hw2, ← e1]; exact Row.new _ _ _
  have R2 := R2.below B3
  have R3 : Row w3 (w.heap.size + 2) 36 zc := by rw [hw3, ← e2]; exact Row.new _ _ _
  have hw : w3 = ((w.alloc (.cells cs.toArray 36)).alloc (.cells r.toArray 33)).alloc (.cells zc.toArray 36) := by rw [hw3, hw2, hw1]
  clear hw1 hw2 hw3 e1 e2 B1 B2 B3
  have c0 := R1.cell (j := 0) h.head
  have hlen := h.len
  have hl := h.1
  have hin' : low < k ∧ k ≤ low + 16 := by simpa [inW] using hin
  obtain ⟨i, hi⟩ : ∃ i : Nat, (i : Int) = k - low - 1 := ⟨(k - low - 1).toNat, by omega⟩
  have hi16 : i < 16 := by omega
  obtain ⟨r0, s1, hs, hr0, hcut, hput⟩ := h.at hi16
  have hfin := hput r s hr
  have hset : setD low sls k s = sls.set i s := by unfold setD; rw [show (k - low - 1).toNat = i by omega]
  have HSET := (show Hid (setD low sls k s = sls.set i s) from hset)
  have hrl := hr.len
  have hwr : wrap64 (k - low) = k - low := IntWalk.wrap64_in _ ⟨by omega, by omega⟩
  have hwr2 : wrap64 (k - low - 1) = (i : Int) := by rw [← hi]; exact IntWalk.wrap64_in _ ⟨by omega, by omega⟩
  have hi0 : ¬ ((i : Int) < 0) := by omega
  have hi1 : (i : Int) < 16 := by omega
  have hinfS : (Try.prog.info? 33).map (·.size) = some r.length := by rw [hrl]; kernel_rfl
  have hone := one_RSl hr
  have hfit : 1 + i * 23 + r.length ≤ cs.length := by rw [hrl, hlen]; omega
  have hlen2 := hfin.len
  have hone2 := hfin.one
  have hinf : (Try.prog.info? 36).map (·.size) = some (splice cs (1 + i * 23) r).length := by rw [hlen2]; exact Try.inf36
  have hz3 : zc.length = (splice cs (1 + i * 23) r).length := by rw [hlen2]; exact hzl
  have HFIN := (show Hid (RDw G w (splice cs (1 + i * 23) r) low (sls.set i s)) from hfin)
  generalize hcs2 : splice cs (1 + i * 23) r = cs2 at hlen2 hone2 hinf hz3 HFIN
  replace hcs2 := (show Hid _ from hcs2)
  clear hset hin hs hcut hin' hrl hput hfin hr0 hlen hlen2 h hr
  replace hi := (show Hid _ from hi)
  go_enter Try.func44, Try.ntmps44
  go_upto_region 1 with fail
  rw [← hw]
  clear hw
  go_wp2_with (first
    | (refine wl_load rfl _ _ rfl (w.heap.size + 1) rfl _ _ R2 _ Try.underlying33 rfl hinfS ?_)
    | (refine wl_put rfl _ _ _ rfl w.heap.size (1 + i * 23) r rfl rfl _ _ R1 hfit hinfS hone ?_; intro w4 R4 g4; have R5 := R3.grown g4 (fun e => by have := Option.some.inj e; omega); replace R4 := R4.out; rw [hcs2.out] at R4)
    | (refine wl_load rfl _ _ rfl w.heap.size rfl _ _ R4 _ Try.underlying36 rfl hinf ?_)
    | (refine wl_store rfl _ _ _ rfl (w.heap.size + 2) cs2 rfl rfl _ _ R5 hz3 hinf hone2 ?_; intro w6 R6 g6))
  refine bodyPost_ret (v := .agg cs2.toArray) (results_cell_row rfl _ _ (w.heap.size + 2) _ _ (0, 0) _ (by rfl) R6.out Try.underlying36 rfl (by rw [List.size_toArray]; exact hinf)) rfl ?_
  have B4 := B.trans (grown_below g4 B.size (fun k hk => by cases hk; omega))
  exact ⟨cs2, rfl, fun G' u h' hr' => (by obtain ⟨_, _, _, _, _, hp⟩ := h'.at hi16; rw [HSET.out, ← hcs2.out]; exact hp r s hr'), B4.trans (grown_below g6 B4.size (fun k hk => by cases hk; omega))⟩
set_option maxRecDepth 20000 in
set_option maxHeartbeats 8000000 in
theorem refNewW_any (w : World) (n : Int) : Calls Try.prog 8 #[.int .i64 n] w fun e w' => ∃ cs, e = .returned (.agg cs.toArray) ∧ (∀ G u, RDw G u cs (bndW n) (List.replicate 16 s0)) ∧ Below w.heap.size w w' := by
  obtain ⟨zc, hzl, hzv⟩ := zW_ex
  obtain ⟨w1, hw1⟩ : ∃ w1, w1 = w.alloc (.cells zc.toArray 36) := ⟨_, rfl⟩
  have B1 : Below w.heap.size w w1 := by rw [hw1]; exact below_alloc _ _
  have R1 : Row w1 w.heap.size 36 zc := by rw [hw1]; exact Row.new _ _ _
  have hz1 : zc.length = (Value.int .i64 (bndW n) :: zRest).length := by rw [hzl]; rfl
  have hD : ∀ G u, RDw G u (Value.int .i64 (bndW n) :: zRest) (bndW n) (List.replicate 16 s0) := fun G u => RDw.zero G u n
  have hone := (hD Any w).one
  have hinf : (Try.prog.info? 36).map (·.size) = some (Value.int .i64 (bndW n) :: zRest).length := by rw [(hD Any w).len]; exact Try.inf36
  have hbn : bndW n = if n < 0 then 0 else if 1000000 < n then 1000000 else n := rfl
  have HD := (show Hid (∀ G u, RDw G u (Value.int .i64 (bndW n) :: zRest) (bndW n) (List.replicate 16 s0)) from hD)
  clear hD
  have fin : ∀ q : Int, q = bndW n → True := fun _ _ => trivial
  clear fin
  go_enter Try.func8, Try.ntmps8
  go_upto_region 1 with fail
  rw [← hw1]
  clear hw1
  by_cases h0 : n < 0
  · have hb : bndW n = 0 := by rw [hbn, if_pos h0]
    rw [hb] at hz1 hone hinf
    clear hbn
    go_wp2_with (first
      | (refine wl_buildW rfl 36 0 _ rfl (.int .i64 0) (.agg (Value.int .i64 0 :: zRest).toArray) rfl (bldW 0 _) ?_)
      | (refine wl_store rfl _ _ _ rfl w.heap.size (Value.int .i64 0 :: zRest) rfl rfl _ _ R1 hz1 hinf hone ?_; intro w2 R2 g2))
    refine bodyPost_ret (v := .agg (Value.int .i64 0 :: zRest).toArray) (results_cell_row rfl _ _ w.heap.size _ _ (0, 0) _ (by rfl) R2.out Try.underlying36 rfl (by rw [List.size_toArray]; exact hinf)) rfl ?_
    exact ⟨_, rfl, by rw [← hb]; exact HD.out, B1.trans (grown_below g2 B1.size (fun k hk => by cases hk; exact Nat.le_refl _))⟩
  · by_cases h1 : 1000000 < n
    · have hb : bndW n = 1000000 := by rw [hbn, if_neg h0, if_pos h1]
      rw [hb] at hz1 hone hinf
      clear hbn
      go_wp2_with (first
        | (refine wl_buildW rfl 36 0 _ rfl (.int .i64 1000000) (.agg (Value.int .i64 1000000 :: zRest).toArray) rfl (bldW 1000000 _) ?_)
        | (refine wl_store rfl _ _ _ rfl w.heap.size (Value.int .i64 1000000 :: zRest) rfl rfl _ _ R1 hz1 hinf hone ?_; intro w2 R2 g2))
      refine bodyPost_ret (v := .agg (Value.int .i64 1000000 :: zRest).toArray) (results_cell_row rfl _ _ w.heap.size _ _ (0, 0) _ (by rfl) R2.out Try.underlying36 rfl (by rw [List.size_toArray]; exact hinf)) rfl ?_
      exact ⟨_, rfl, by rw [← hb]; exact HD.out, B1.trans (grown_below g2 B1.size (fun k hk => by cases hk; exact Nat.le_refl _))⟩
    · have hb : bndW n = n := by rw [hbn, if_neg h0, if_neg h1]
      rw [hb] at hz1 hone hinf
      clear hbn
      go_wp2_with (first
        | (refine wl_buildW rfl 36 0 _ rfl (.int .i64 n) (.agg (Value.int .i64 n :: zRest).toArray) rfl (bldW n _) ?_)
        | (refine wl_store rfl _ _ _ rfl w.heap.size (Value.int .i64 n :: zRest) rfl rfl _ _ R1 hz1 hinf hone ?_; intro w2 R2 g2))
      refine bodyPost_ret (v := .agg (Value.int .i64 n :: zRest).toArray) (results_cell_row rfl _ _ w.heap.size _ _ (0, 0) _ (by rfl) R2.out Try.underlying36 rfl (by rw [List.size_toArray]; exact hinf)) rfl ?_
      exact ⟨_, rfl, by rw [← hb]; exact HD.out, B1.trans (grown_below g2 B1.size (fun k hk => by cases hk; exact Nat.le_refl _))⟩
end Go.Proofs.Ytjloehkolnjnhaa
