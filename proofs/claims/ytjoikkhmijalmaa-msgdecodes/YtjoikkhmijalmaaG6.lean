/- A region that draws: two rows are loaded and stored into two others. -/
import Derived.Test.YtjoikkhmijalmaaG5
import Derived.Test.YtjoikkhmijalmaaD6
set_option linter.unusedVariables false
set_option linter.unusedSimpArgs false
namespace Go.Proofs.Ytjoikkhmijalmaa
open Go.RowKit Oct

section
variable {P : Program}
theorem wpOp_load {ops : Array Oper} {Q : Exit → Act → World → Prop} {i : Nat} {K : Act → World → Prop} {a : Act} {w : World} {o : Oper} (hi : ops[i]? = some o) (hgd : o.guard = none) (ty : TypeId) (x : Operand) (ho : o.op = .load ty x)
    (b : Nat) (hx : a.eval x = .pointer (some ⟨b, 0, none⟩)) (t : TypeId) (xs : List Value) (h : Row w b t xs) (d : TypeDesc) (hu : P.underlying ty = some d) (hd : (match d with | .struct _ | .array _ _ => true | _ => false) = true)
    (hs : (P.info? ty).map (·.size) = some xs.length) (k : K (a.put o.dst (.agg xs.toArray)) w) : wpOp P ops Q i K a w := by
  have hw : Region.wanted o (yielded ops a.tmps) = true := by simp [Region.wanted, hgd]
  unfold wpOp
  rw [hi]
  simp only [hw, if_true]
  left
  unfold Oper.wp execOp
  simp only [ho, hx, Sem.run_bind, Sem.run_pure, Result.andThen_ok, h.load ty d hu hd hs]
  exact k
theorem wp_two {ops : Array Oper} {Q : Exit → Act → World → Prop} {id : Nat} {a : Act} {w : World} (hm : P.follows .mixedOrders = true) (hsz : ops.size = 4)
    (r0 : Region.ready .any ops #[false, false, false, false] = [0, 1]) (r1 : Region.ready .any ops #[true, false, false, false] = [1, 2]) (r2 : Region.ready .any ops #[false, true, false, false] = [0]) (r3 : Region.ready .any ops #[true, true, false, false] = [2])
    (r4 : Region.ready .any ops #[true, false, true, false] = [1]) (r5 : Region.ready .any ops #[true, true, true, false] = [3]) (r6 : Region.ready .any ops #[true, true, true, true] = [])
    {o0 o1 o2 o3 : Oper} (i0 : ops[0]? = some o0) (i1 : ops[1]? = some o1) (i2 : ops[2]? = some o2) (i3 : ops[3]? = some o3) (g0 : o0.guard = none) (g1 : o1.guard = none) (g2 : o2.guard = none) (g3 : o3.guard = none)
    (T1 T2 : TypeId) (x0 x1 y0 z0 y1 z1 : Operand) (p0 : o0.op = .load T1 x0) (p1 : o1.op = .load T2 x1) (p2 : o2.op = .store T1 y0 z0) (p3 : o3.op = .store T2 y1 z1)
    (b0 b1 b2 b3 : Nat) (t0 t1 t2 t3 : TypeId) (xs ys xs2 ys2 : List Value) (R0 : Row w b0 t0 xs) (R1 : Row w b1 t1 ys) (R2 : Row w b2 t2 xs2) (R3 : Row w b3 t3 ys2) (hl2 : xs2.length = xs.length) (hl3 : ys2.length = ys.length)
    (d1 d2 : TypeDesc) (hu1 : P.underlying T1 = some d1) (hd1 : (match d1 with | .struct _ | .array _ _ => true | _ => false) = true) (hu2 : P.underlying T2 = some d2) (hd2 : (match d2 with | .struct _ | .array _ _ => true | _ => false) = true)
    (s1 : (P.info? T1).map (·.size) = some xs.length) (s2 : (P.info? T2).map (·.size) = some ys.length) (one1 : ∀ v ∈ xs, v.oneCell' = true) (one2 : ∀ v ∈ ys, v.oneCell' = true) (hne : b2 ≠ b3) (hn1 : b1 ≠ b2) (A : Act)
    (e0 : a.eval x0 = .pointer (some ⟨b0, 0, none⟩)) (e1 : a.eval x1 = .pointer (some ⟨b1, 0, none⟩)) (e0' : (a.put o1.dst (.agg ys.toArray)).eval x0 = .pointer (some ⟨b0, 0, none⟩)) (e1' : (a.put o0.dst (.agg xs.toArray)).eval x1 = .pointer (some ⟨b1, 0, none⟩))
    (j2 : (a.put o0.dst (.agg xs.toArray)).eval y0 = .pointer (some ⟨b2, 0, none⟩)) (j2' : (a.put o0.dst (.agg xs.toArray)).eval z0 = .agg xs.toArray) (k1 : (a.put o0.dst (.agg xs.toArray)).put o2.dst undef = a.put o0.dst (.agg xs.toArray))
    (q1 : (a.put o0.dst (.agg xs.toArray)).put o1.dst (.agg ys.toArray) = A) (q2 : (a.put o1.dst (.agg ys.toArray)).put o0.dst (.agg xs.toArray) = A)
    (f2 : A.eval y0 = .pointer (some ⟨b2, 0, none⟩)) (f2' : A.eval z0 = .agg xs.toArray) (f3 : A.eval y1 = .pointer (some ⟨b3, 0, none⟩)) (f3' : A.eval z1 = .agg ys.toArray) (k2 : A.put o2.dst undef = A) (k3 : A.put o3.dst undef = A)
    (h : ∀ u w', w.grownBy u (some b2) → u.grownBy w' (some b3) → Row w' b2 t2 xs → Row w' b3 t3 ys → Q .normal A w') : (Code.region id ops true).wp P Q a w := by
  have R0' : Row { w with drawn := w.drawn + 1 } b0 t0 xs := R0
  have R1' : Row { w with drawn := w.drawn + 1 } b1 t1 ys := R1
  have R2' : Row { w with drawn := w.drawn + 1 } b2 t2 xs2 := R2
  have R3' : Row { w with drawn := w.drawn + 1 } b3 t3 ys2 := R3
  have tog : ∀ {u : World} {c : Option Nat}, World.grownBy { w with drawn := w.drawn + 1 } u c → w.grownBy u c := fun {u c} hg => ⟨hg.os, hg.tape, hg.output, hg.size, hg.block⟩
  obtain ⟨W, hW⟩ : ∃ W : World, W = { w with drawn := w.drawn + 1 } := ⟨_, rfl⟩
  rw [← hW] at R0' R1' R2' R3'
  have tog : ∀ {u : World} {c : Option Nat}, W.grownBy u c → w.grownBy u c := fun {u c} hg => by rw [hW] at hg; exact tog hg
  have fin : ∀ u : World, W.grownBy u (some b2) → Row u b2 t2 xs → wpAny P .any ops Q 1 #[true, true, true, false] A u := by
    intro u hg hr
    have R3u := R3'.grown hg (fun e => hne (by injection e))
    refine wpAny_all (rs := [3]) r5 (by simp) ?_
    intro i hi
    obtain rfl : i = 3 := by simpa using hi
    refine wpOp_store i3 g3 T2 y1 z1 p3 b3 ys f3 f3' t3 ys2 R3u hl3 s2 one2 ?_
    intro u' hr' hg'
    rw [k3]
    exact wpAny_done r6 (h u u' (tog hg) hg' (hr.grown hg' (fun e => hne (by injection e with e; exact e.symm))) hr') _
  have mid : wpAny P .any ops Q 2 #[true, true, false, false] A W := by
    refine wpAny_all (rs := [2]) r3 (by simp) ?_
    intro i hi
    obtain rfl : i = 2 := by simpa using hi
    refine wpOp_store i2 g2 T1 y0 z0 p2 b2 xs f2 f2' t2 xs2 R2' hl2 s1 one1 ?_
    intro u hr hg
    rw [k2]
    exact fin u hg hr
  have key : wpAny P .any ops Q 4 #[false, false, false, false] a W := by
    refine wpAny_all (rs := [0, 1]) r0 (by simp) ?_
    intro i hi
    simp only [List.mem_cons, List.not_mem_nil, or_false] at hi
    rcases hi with rfl | rfl
    · refine wpOp_load i0 g0 T1 x0 p0 b0 e0 t0 xs R0' d1 hu1 hd1 s1 ?_
      refine wpAny_all (rs := [1, 2]) r1 (by simp) ?_
      intro i hi
      simp only [List.mem_cons, List.not_mem_nil, or_false] at hi
      rcases hi with rfl | rfl
      · refine wpOp_load i1 g1 T2 x1 p1 b1 e1' t1 ys R1' d2 hu2 hd2 s2 ?_
        rw [q1]
        exact mid
      · refine wpOp_store i2 g2 T1 y0 z0 p2 b2 xs j2 j2' t2 xs2 R2' hl2 s1 one1 ?_
        intro u hr hg
        rw [k1]
        have R1u := R1'.grown hg (fun e => hn1 (by injection e with e; exact e.symm))
        refine wpAny_all (rs := [1]) r4 (by simp) ?_
        intro i hi
        obtain rfl : i = 1 := by simpa using hi
        refine wpOp_load i1 g1 T2 x1 p1 b1 e1' t1 ys R1u d2 hu2 hd2 s2 ?_
        rw [q1]
        exact fin u hg hr
    · refine wpOp_load i1 g1 T2 x1 p1 b1 e1 t1 ys R1' d2 hu2 hd2 s2 ?_
      refine wpAny_all (rs := [0]) r2 (by simp) ?_
      intro i hi
      obtain rfl : i = 0 := by simpa using hi
      refine wpOp_load i0 g0 T1 x0 p0 b0 e0' t0 xs R0' d1 hu1 hd1 s1 ?_
      rw [q2]
      exact mid
  refine wp_region_any hm ?_
  rw [hsz, ← hW]
  exact key
end
#print axioms wp_two
end Go.Proofs.Ytjoikkhmijalmaa
