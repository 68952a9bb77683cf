/- The document's With. -/
import Derived.Test.YtbnioibeckifbaaKr
import Derived.Test.YtbnioibeckifbaaW4
import Derived.BigQuiet
import Derived.Deep.QuietTactic
import Derived.Test.YtbnioibeckifbaaRa
section
set_option linter.unusedVariables false
set_option linter.unusedSimpArgs false
namespace Go.Proofs.Ytbnioibeckifbaa
open Go.RowKit Oct Kvl

theorem results_ct {P : Program} {fn : Func} {p t : Tmp} {ty : TypeId} (h : fn.results = #[.cell p ty, .tmp t]) (tmps : Array Value) (w : World) (g : Nat) (tt : TypeId) (cs : Array Value) (fr : Nat × Nat) (d : TypeDesc)
    (hp : tmps.getD p undef = .pointer (some ⟨g, 0, none⟩)) (hg : w.heap[g]? = some (.cells cs tt fr))
    (hu : P.underlying ty = some d) (hd : (match d with | .struct _ | .array _ _ => true | _ => false) = true) (hi : (P.info? ty).map (·.size) = some cs.size) :
    (results fn tmps).run P w = .ok (.tuple #[.agg cs, tmps.getD t undef]) w := by
  have hp' : tmps[p]?.getD undef = .pointer (some ⟨g, 0, none⟩) := by simpa using hp
  simp [results, h, hp', asAddr, run_loadVar_row w g tt ty cs fr d hg hu hd hi]
theorem getI_err (l : List Int) (p : Int) : ∃ b : Bool, (getI l p).2.2 = if b = true then 11 else 0 := by
  unfold getI
  split
  · exact ⟨true, rfl⟩
  · split
    · exact ⟨true, rfl⟩
    · exact ⟨false, rfl⟩
theorem getB_err (l : List Int) (p m : Int) : ∃ b : Bool, (getB l p m).2.2 = if b = true then 11 else 0 := by
  unfold getB
  split
  · exact ⟨true, rfl⟩
  · exact ⟨false, rfl⟩
set_option maxRecDepth 100000 in
theorem neE (b0 b1 b2 b3 b4 : Bool) (u : World) : (binOp .neq 75 (.agg #[.int .i64 (if b0 = true then 11 else 0), .int .i64 (if b1 = true then 11 else 0), .int .i64 (if b2 = true then 11 else 0), .int .i64 (if b3 = true then 11 else 0), .int .i64 (if b4 = true then 11 else 0)]) (.agg #[.int .i64 0, .int .i64 0, .int .i64 0, .int .i64 0, .int .i64 0])).run Try.prog u = .ok (.bool (b0 || b1 || b2 || b3 || b4)) u := by
  cases b0 <;> cases b1 <;> cases b2 <;> cases b3 <;> cases b4 <;> kernel_rfl
def opR (l : List Int) : POp := match rdO l with | none => (0, [], [], [], 0) | some o => o
def errR (l : List Int) : Int := match rdO l with | none => 71 | some _ => 0
theorem one5z : ∀ y ∈ [Value.int .i64 0, .slice none 0 0, .slice none 0 0, .slice none 0 0, Value.int .i64 0], y.oneCell' = true := one5 rfl rfl rfl

end Go.Proofs.Ytbnioibeckifbaa
end

section
set_option linter.unusedVariables false
set_option linter.unusedSimpArgs false
namespace Go.Proofs.Ytbnioibeckifbaa
open Go.RowKit Oct Kvl

theorem wok_iff (o : POp) : wok o ↔ ((1 ≤ o.1 ∧ o.1 ≤ 8) ∧ (1 ≤ o.2.1.length ∧ o.2.1.length ≤ 16) ∧ o.2.2.1.length ≤ 64 ∧ o.2.2.2.1.length ≤ 64) ∧ (o.1 = 2 → o.2.2.2.1.length = 0 ∧ o.2.2.2.2 = 0) ∧ (o.1 = 3 → o.2.2.2.2 = 0) ∧ ((o.1 = 5 ∨ o.1 = 6) → o.2.2.1.length = 0 ∧ o.2.2.2.1.length = 0 ∧ 1 ≤ o.2.2.2.2 ∧ o.2.2.2.2 ≤ 1000) ∧ ((o.1 ≠ 2 ∧ o.1 ≠ 3 ∧ o.1 ≠ 5 ∧ o.1 ≠ 6) → o.2.2.1.length = 0 ∧ o.2.2.2.1.length = 0 ∧ o.2.2.2.2 = 0) := by
  unfold wok mA mB lN mN
  generalize o.2.1.length = Ln
  generalize o.2.2.1.length = La
  generalize o.2.2.2.1.length = Lb
  generalize o.2.2.2.2 = u
  generalize o.1 = k
  by_cases h2 : k = 2
  · subst h2; simp; omega
  by_cases h3 : k = 3
  · subst h3; simp; omega
  by_cases h5 : k = 5
  · subst h5; simp; omega
  by_cases h6 : k = 6
  · subst h6; simp; omega
  simp only [h2, h3, h5, h6, or_self, if_false]
  simp
  omega

set_option maxRecDepth 10000 in
set_option maxHeartbeats 8000000 in
/-- The document's RightOp. -/
theorem rightOp_any (w : World) (r : List Value) (o : POp) (h : ROp Any w r o) :
    Calls Try.prog 32 #[.agg r.toArray] w fun e w' => e = .returned (.bool (decide (wok o))) ∧ Below w.heap.size w w' := by
  have hw := wok_iff o
  obtain ⟨k, on, oa, ob, u⟩ := o
  obtain ⟨vn, va, vb, rfl, rn, ra', rb'⟩ := h
  obtain ⟨an, cn, rfl, hcn⟩ := rn.form
  obtain ⟨aa, ca, rfl, hca⟩ := ra'.form
  obtain ⟨ab, cb, rfl, hcb⟩ := rb'.form
  simp only at hw hcn hca hcb ⊢
  obtain ⟨d, hd⟩ : ∃ d, d = decide (wok (k, on, oa, ob, u)) := ⟨_, rfl⟩
  rw [← hd]
  have HY : d = true ↔ wok (k, on, oa, ob, u) := by rw [hd, decide_eq_true_eq]
  rw [hw] at HY
  clear hw hd rn ra' rb' hcn hca hcb
  generalize on.length = Ln at *
  generalize oa.length = La at *
  generalize ob.length = Lb at *
  clear on oa ob
  obtain ⟨w0, hw0⟩ : ∃ w0, w0 = w.alloc (.cells #[.int .i64 k, .slice an Ln cn, .slice aa La ca, .slice ab Lb cb, .int .i64 u] 25) := ⟨_, rfl⟩
  have x0 : Row w0 w.heap.size 25 [.int .i64 k, .slice an Ln cn, .slice aa La ca, .slice ab Lb cb, .int .i64 u] := by rw [hw0]; exact Row.new w 25 _
  have B0 : Below w.heap.size w w0 := by rw [hw0]; exact below_alloc _ _
  have c0 := x0.cell (j := 0) rfl
  have c1 := x0.cell (j := 1) rfl
  have c2 := x0.cell (j := 2) rfl
  have c3 := x0.cell (j := 3) rfl
  have c4 := x0.cell (j := 4) rfl
  clear x0
  by_cases t1 : k < 1
  · skip
    obtain rfl : d = false := (Bool.eq_false_iff.2 fun h => by have := HY.1 h; omega)
    clear HY
    try clear t3
    try clear za
    try clear zb
    try clear zu
    go_enter Try.func32, Try.ntmps32
    go_upto_region 1 with fail
    rw [← hw0]
    clear hw0
    go_wp2_with fail
    go_ret
    exact ⟨rfl, B0⟩
  have f1 : decide (k < 1) = false := by simp; omega
  by_cases t2 : 8 < k
  · skip
    obtain rfl : d = false := (Bool.eq_false_iff.2 fun h => by have := HY.1 h; omega)
    clear HY
    try clear t3
    try clear za
    try clear zb
    try clear zu
    go_enter Try.func32, Try.ntmps32
    go_upto_region 1 with fail
    rw [← hw0]
    clear hw0
    go_wp2_with fail
    go_ret
    exact ⟨rfl, B0⟩
  have f2 : decide (8 < k) = false := by simp; omega
  by_cases t3 : Ln = 0
  · have f3 : ((Ln : Int) == 0) = true := by simp; omega
    obtain rfl : d = false := (Bool.eq_false_iff.2 fun h => by have := HY.1 h; omega)
    clear HY
    try clear t3
    try clear za
    try clear zb
    try clear zu
    go_enter Try.func32, Try.ntmps32
    go_upto_region 1 with fail
    rw [← hw0]
    clear hw0
    go_wp2_with fail
    go_ret
    exact ⟨rfl, B0⟩
  have f3 : ((Ln : Int) == 0) = false := by simp; omega
  by_cases t4 : 16 < Ln
  · have f4 : (16 : Int) < Ln := by omega
    obtain rfl : d = false := (Bool.eq_false_iff.2 fun h => by have := HY.1 h; omega)
    clear HY
    try clear t3
    try clear za
    try clear zb
    try clear zu
    go_enter Try.func32, Try.ntmps32
    go_upto_region 1 with fail
    rw [← hw0]
    clear hw0
    go_wp2_with fail
    go_ret
    exact ⟨rfl, B0⟩
  have f4 : decide ((16 : Int) < Ln) = false := by simp; omega
  by_cases t5 : 64 < La
  · have f5 : (64 : Int) < La := by omega
    obtain rfl : d = false := (Bool.eq_false_iff.2 fun h => by have := HY.1 h; omega)
    clear HY
    try clear t3
    try clear za
    try clear zb
    try clear zu
    go_enter Try.func32, Try.ntmps32
    go_upto_region 1 with fail
    rw [← hw0]
    clear hw0
    go_wp2_with fail
    go_ret
    exact ⟨rfl, B0⟩
  have f5 : decide ((64 : Int) < La) = false := by simp; omega
  by_cases t6 : 64 < Lb
  · have f6 : (64 : Int) < Lb := by omega
    obtain rfl : d = false := (Bool.eq_false_iff.2 fun h => by have := HY.1 h; omega)
    clear HY
    try clear t3
    try clear za
    try clear zb
    try clear zu
    go_enter Try.func32, Try.ntmps32
    go_upto_region 1 with fail
    rw [← hw0]
    clear hw0
    go_wp2_with fail
    go_ret
    exact ⟨rfl, B0⟩
  have f6 : decide ((64 : Int) < Lb) = false := by simp; omega
  by_cases q2 : k = 2
  · subst q2
    clear f1 f2
    by_cases zb : Lb = 0
    rotate_left
    · have gzb : ((Lb : Int) == 0) = false := by simp; omega
      obtain rfl : d = false := (Bool.eq_false_iff.2 fun h => by have := HY.1 h; omega)
      clear HY
      try clear t3
      try clear za
      try clear zb
      try clear zu
      go_enter Try.func32, Try.ntmps32
      go_upto_region 1 with fail
      rw [← hw0]
      clear hw0
      go_wp2_with fail
      go_ret
      exact ⟨rfl, B0⟩
    have gzb : ((Lb : Int) == 0) = true := by simp; omega
    by_cases zu : u = 0
    rotate_left
    · have gzu : ((u : Int) == 0) = false := by simp; omega
      obtain rfl : d = false := (Bool.eq_false_iff.2 fun h => by have := HY.1 h; omega)
      clear HY
      try clear t3
      try clear za
      try clear zb
      try clear zu
      go_enter Try.func32, Try.ntmps32
      go_upto_region 1 with fail
      rw [← hw0]
      clear hw0
      go_wp2_with fail
      go_ret
      exact ⟨rfl, B0⟩
    have gzu : ((u : Int) == 0) = true := by simp; omega
    obtain rfl : d = true := (HY.2 (by omega))
    clear HY
    try clear t3
    try clear za
    try clear zb
    try clear zu
    go_enter Try.func32, Try.ntmps32
    go_upto_region 1 with fail
    rw [← hw0]
    clear hw0
    go_wp2_with fail
    go_ret
    exact ⟨rfl, B0⟩
  have b2 : (k == 2) = false := by simp [q2]
  by_cases q3 : k = 3
  · subst q3
    clear f1 f2
    by_cases zu : u = 0
    rotate_left
    · have gzu : ((u : Int) == 0) = false := by simp; omega
      obtain rfl : d = false := (Bool.eq_false_iff.2 fun h => by have := HY.1 h; omega)
      clear HY
      try clear t3
      try clear za
      try clear zb
      try clear zu
      go_enter Try.func32, Try.ntmps32
      go_upto_region 1 with fail
      rw [← hw0]
      clear hw0
      go_wp2_with fail
      go_ret
      exact ⟨rfl, B0⟩
    have gzu : ((u : Int) == 0) = true := by simp; omega
    obtain rfl : d = true := (HY.2 (by omega))
    clear HY
    try clear t3
    try clear za
    try clear zb
    try clear zu
    go_enter Try.func32, Try.ntmps32
    go_upto_region 1 with fail
    rw [← hw0]
    clear hw0
    go_wp2_with fail
    go_ret
    exact ⟨rfl, B0⟩
  have b3 : (k == 3) = false := by simp [q3]
  by_cases q5 : k = 5
  · subst q5
    clear f1 f2
    by_cases za : La = 0
    rotate_left
    · have gza : ((La : Int) == 0) = false := by simp; omega
      obtain rfl : d = false := (Bool.eq_false_iff.2 fun h => by have := HY.1 h; omega)
      clear HY
      try clear t3
      try clear za
      try clear zb
      try clear zu
      go_enter Try.func32, Try.ntmps32
      go_upto_region 1 with fail
      rw [← hw0]
      clear hw0
      go_wp2_with fail
      go_ret
      exact ⟨rfl, B0⟩
    have gza : ((La : Int) == 0) = true := by simp; omega
    by_cases zb : Lb = 0
    rotate_left
    · have gzb : ((Lb : Int) == 0) = false := by simp; omega
      obtain rfl : d = false := (Bool.eq_false_iff.2 fun h => by have := HY.1 h; omega)
      clear HY
      try clear t3
      try clear za
      try clear zb
      try clear zu
      go_enter Try.func32, Try.ntmps32
      go_upto_region 1 with fail
      rw [← hw0]
      clear hw0
      go_wp2_with fail
      go_ret
      exact ⟨rfl, B0⟩
    have gzb : ((Lb : Int) == 0) = true := by simp; omega
    by_cases m1 : 1 ≤ u
    rotate_left
    · have n1 : decide (1 ≤ u) = false := by simp; omega
      obtain rfl : d = false := (Bool.eq_false_iff.2 fun h => by have := HY.1 h; omega)
      clear HY
      try clear t3
      try clear za
      try clear zb
      try clear zu
      go_enter Try.func32, Try.ntmps32
      go_upto_region 1 with fail
      rw [← hw0]
      clear hw0
      go_wp2_with fail
      go_ret
      exact ⟨rfl, B0⟩
    by_cases m2 : u ≤ 1000
    rotate_left
    · have n2 : decide (u ≤ 1000) = false := by simp; omega
      obtain rfl : d = false := (Bool.eq_false_iff.2 fun h => by have := HY.1 h; omega)
      clear HY
      try clear t3
      try clear za
      try clear zb
      try clear zu
      go_enter Try.func32, Try.ntmps32
      go_upto_region 1 with fail
      rw [← hw0]
      clear hw0
      go_wp2_with fail
      go_ret
      exact ⟨rfl, B0⟩
    obtain rfl : d = true := (HY.2 (by omega))
    clear HY
    try clear t3
    try clear za
    try clear zb
    try clear zu
    go_enter Try.func32, Try.ntmps32
    go_upto_region 1 with fail
    rw [← hw0]
    clear hw0
    go_wp2_with fail
    go_ret
    exact ⟨rfl, B0⟩
  have b5 : (k == 5) = false := by simp [q5]
  by_cases q6 : k = 6
  · subst q6
    clear f1 f2
    by_cases za : La = 0
    rotate_left
    · have gza : ((La : Int) == 0) = false := by simp; omega
      obtain rfl : d = false := (Bool.eq_false_iff.2 fun h => by have := HY.1 h; omega)
      clear HY
      try clear t3
      try clear za
      try clear zb
      try clear zu
      go_enter Try.func32, Try.ntmps32
      go_upto_region 1 with fail
      rw [← hw0]
      clear hw0
      go_wp2_with fail
      go_ret
      exact ⟨rfl, B0⟩
    have gza : ((La : Int) == 0) = true := by simp; omega
    by_cases zb : Lb = 0
    rotate_left
    · have gzb : ((Lb : Int) == 0) = false := by simp; omega
      obtain rfl : d = false := (Bool.eq_false_iff.2 fun h => by have := HY.1 h; omega)
      clear HY
      try clear t3
      try clear za
      try clear zb
      try clear zu
      go_enter Try.func32, Try.ntmps32
      go_upto_region 1 with fail
      rw [← hw0]
      clear hw0
      go_wp2_with fail
      go_ret
      exact ⟨rfl, B0⟩
    have gzb : ((Lb : Int) == 0) = true := by simp; omega
    by_cases m1 : 1 ≤ u
    rotate_left
    · have n1 : decide (1 ≤ u) = false := by simp; omega
      obtain rfl : d = false := (Bool.eq_false_iff.2 fun h => by have := HY.1 h; omega)
      clear HY
      try clear t3
      try clear za
      try clear zb
      try clear zu
      go_enter Try.func32, Try.ntmps32
      go_upto_region 1 with fail
      rw [← hw0]
      clear hw0
      go_wp2_with fail
      go_ret
      exact ⟨rfl, B0⟩
    by_cases m2 : u ≤ 1000
    rotate_left
    · have n2 : decide (u ≤ 1000) = false := by simp; omega
      obtain rfl : d = false := (Bool.eq_false_iff.2 fun h => by have := HY.1 h; omega)
      clear HY
      try clear t3
      try clear za
      try clear zb
      try clear zu
      go_enter Try.func32, Try.ntmps32
      go_upto_region 1 with fail
      rw [← hw0]
      clear hw0
      go_wp2_with fail
      go_ret
      exact ⟨rfl, B0⟩
    obtain rfl : d = true := (HY.2 (by omega))
    clear HY
    try clear t3
    try clear za
    try clear zb
    try clear zu
    go_enter Try.func32, Try.ntmps32
    go_upto_region 1 with fail
    rw [← hw0]
    clear hw0
    go_wp2_with fail
    go_ret
    exact ⟨rfl, B0⟩
  have b6 : (k == 6) = false := by simp [q6]
  by_cases za : La = 0
  rotate_left
  · have gza : ((La : Int) == 0) = false := by simp; omega
    obtain rfl : d = false := (Bool.eq_false_iff.2 fun h => by have := HY.1 h; omega)
    clear HY
    try clear t3
    try clear za
    try clear zb
    try clear zu
    go_enter Try.func32, Try.ntmps32
    go_upto_region 1 with fail
    rw [← hw0]
    clear hw0
    go_wp2_with fail
    go_ret
    exact ⟨rfl, B0⟩
  have gza : ((La : Int) == 0) = true := by simp; omega
  by_cases zb : Lb = 0
  rotate_left
  · have gzb : ((Lb : Int) == 0) = false := by simp; omega
    obtain rfl : d = false := (Bool.eq_false_iff.2 fun h => by have := HY.1 h; omega)
    clear HY
    try clear t3
    try clear za
    try clear zb
    try clear zu
    go_enter Try.func32, Try.ntmps32
    go_upto_region 1 with fail
    rw [← hw0]
    clear hw0
    go_wp2_with fail
    go_ret
    exact ⟨rfl, B0⟩
  have gzb : ((Lb : Int) == 0) = true := by simp; omega
  by_cases zu : u = 0
  rotate_left
  · have gzu : ((u : Int) == 0) = false := by simp; omega
    obtain rfl : d = false := (Bool.eq_false_iff.2 fun h => by have := HY.1 h; omega)
    clear HY
    try clear t3
    try clear za
    try clear zb
    try clear zu
    go_enter Try.func32, Try.ntmps32
    go_upto_region 1 with fail
    rw [← hw0]
    clear hw0
    go_wp2_with fail
    go_ret
    exact ⟨rfl, B0⟩
  have gzu : ((u : Int) == 0) = true := by simp; omega
  obtain rfl : d = true := (HY.2 (by omega))
  clear HY
  try clear t3
  try clear za
  try clear zb
  try clear zu
  go_enter Try.func32, Try.ntmps32
  go_upto_region 1 with fail
  rw [← hw0]
  clear hw0
  go_wp2_with fail
  go_ret
  exact ⟨rfl, B0⟩
end Go.Proofs.Ytbnioibeckifbaa
end

section
set_option linter.unusedVariables false
set_option linter.unusedSimpArgs false
namespace Go.Proofs.Ytbnioibeckifbaa
open Go.RowKit Oct Kvl

set_option maxRecDepth 10000 in
set_option maxHeartbeats 4000000 in
/-- The document's SameOp, of two alike. -/
theorem sameOp_eq (w : World) (r1 r2 : List Value) (o : POp) (h1 : ROp Any w r1 o) (h2 : ROp Any w r2 o) :
    Calls Try.prog 17 #[.agg r1.toArray, .agg r2.toArray] w fun e w' => e = .returned (.bool true) ∧ Below w.heap.size w w' := by
  obtain ⟨vn, va, vb, rfl, rn, ra', rb'⟩ := h1
  obtain ⟨un, ua, ub, rfl, sn, sa, sb⟩ := h2
  obtain ⟨w2, hw2⟩ : ∃ w2, w2 = (w.alloc (.cells #[.int .i64 o.1, vn, va, vb, .int .i64 o.2.2.2.2] 25)).alloc (.cells #[.int .i64 o.1, un, ua, ub, .int .i64 o.2.2.2.2] 25) := ⟨_, rfl⟩
  have ra : Row w2 w.heap.size 25 [.int .i64 o.1, vn, va, vb, .int .i64 o.2.2.2.2] := by rw [hw2]; exact rowA (Row.new w 25 _) _
  have rb : Row w2 (w.heap.size + 1) 25 [.int .i64 o.1, un, ua, ub, .int .i64 o.2.2.2.2] := by
    rw [hw2]
    have := Row.new (w.alloc (.cells #[.int .i64 o.1, vn, va, vb, .int .i64 o.2.2.2.2] 25)) 25 [.int .i64 o.1, un, ua, ub, .int .i64 o.2.2.2.2]
    simpa using this
  have hB : Below w.heap.size w w2 := by rw [hw2]; exact ((Below.refl _ w).alloc (Nat.le_refl _) _).alloc (by simp) _
  have a0 := ra.cell (j := 0) rfl; have a1 := ra.cell (j := 1) rfl; have a2 := ra.cell (j := 2) rfl; have a3 := ra.cell (j := 3) rfl; have a4 := ra.cell (j := 4) rfl
  have b0 := rb.cell (j := 0) rfl; have b1 := rb.cell (j := 1) rfl; have b2 := rb.cell (j := 2) rfl; have b3 := rb.cell (j := 3) rfl; have b4 := rb.cell (j := 4) rfl
  have s1 := same_any w2 vn un _ _ (rn.mv (Mv.below hB)).1 (sn.mv (Mv.below hB)).1
  have s2 := same_any w2 va ua _ _ (ra'.mv (Mv.below hB)).1 (sa.mv (Mv.below hB)).1
  have s3 := same_any w2 vb ub _ _ (rb'.mv (Mv.below hB)).1 (sb.mv (Mv.below hB)).1
  simp only [decide_true] at s1 s2 s3
  clear ra rb rn ra' rb' sn sa sb
  generalize o.1 = k at *
  generalize o.2.2.2.2 = u at *
  have ek : (k == k) = true := by simp
  have eu : (u == u) = true := by simp
  go_enter Try.func17, Try.ntmps17
  go_upto_region 1 with fail
  rw [← hw2]
  clear hw2
  go_wp2_with (first
    | (go_at_call_has 35 un; refine s1.mono ?_; rintro e w3 ⟨rfl, rfl⟩)
    | (go_at_call_has 35 ua; refine s2.mono ?_; rintro e w3 ⟨rfl, rfl⟩)
    | (go_at_call_has 35 ub; refine s3.mono ?_; rintro e w3 ⟨rfl, rfl⟩))
  go_ret
  exact ⟨rfl, hB⟩

theorem packL_op (a b c : List Int) : packL [a, b, c] = (enc a.length ++ a) ++ ((enc b.length ++ b) ++ (enc c.length ++ c)) := by simp [packL]
theorem wrO_pack (o : POp) (h : wok o) : wrO o = enc o.1 ++ packL [o.2.1, o.2.2.1, o.2.2.2.1] ++ enc o.2.2.2.2 := by
  rw [wrO_eq o h, packL_op]
  simp only [List.append_assoc]

end Go.Proofs.Ytbnioibeckifbaa
end

section
set_option linter.unusedVariables false
set_option linter.unusedSimpArgs false
namespace Go.Proofs.Ytbnioibeckifbaa
open Go.RowKit Oct Kvl

def zO : List Value := [.int .i64 0, .slice none 0 0, .slice none 0 0, .slice none 0 0, .int .i64 0]

end Go.Proofs.Ytbnioibeckifbaa
end

section
set_option linter.unusedVariables false
set_option linter.unusedSimpArgs false
namespace Go.Proofs.Ytbnioibeckifbaa
open Go.RowKit Oct Kvl

theorem less_bytes : ∀ {a b : List Int}, Byt a → Byt b → Op.bytesLess (a.map fun n => UInt8.ofNat n.toNat) (b.map fun n => UInt8.ofNat n.toNat) = decide (cmpL a b < 0)
  | [], [], _, _ => rfl
  | [], _ :: _, _, _ => rfl
  | _ :: _, [], _, _ => rfl
  | x :: a, y :: b, ha, hb => by
    have hx := ha x (by simp)
    have hy := hb y (by simp)
    have ih := less_bytes (a := a) (b := b) (fun z hz => ha z (by simp [hz])) (fun z hz => hb z (by simp [hz]))
    have e1 : (UInt8.ofNat x.toNat < UInt8.ofNat y.toNat) ↔ x < y := u8_lt hx hy
    have e2 : (UInt8.ofNat y.toNat < UInt8.ofNat x.toNat) ↔ y < x := u8_lt hy hx
    have e3 : (UInt8.ofNat x.toNat == UInt8.ofNat y.toNat) = decide (x = y) := by
      rw [Bool.eq_iff_iff]
      simp only [beq_iff_eq, decide_eq_true_eq]
      refine ⟨fun h => ?_, fun h => by rw [h]⟩
      rw [h] at e1 e2
      have := UInt8.lt_irrefl (UInt8.ofNat y.toNat)
      have n1 : ¬ x < y := fun hh => this (e1.2 hh)
      have n2 : ¬ y < x := fun hh => this (e2.2 hh)
      omega
    show (decide (UInt8.ofNat x.toNat < UInt8.ofNat y.toNat) || ((UInt8.ofNat x.toNat == UInt8.ofNat y.toNat) && Op.bytesLess (a.map fun n => UInt8.ofNat n.toNat) (b.map fun n => UInt8.ofNat n.toNat))) = _
    rw [ih, e3]
    show _ = decide ((if x < y then -1 else if y < x then 1 else cmpL a b) < 0)
    by_cases h1 : x < y
    · simp [e1.2 h1, h1]
    · by_cases h2 : y < x
      · have h3 : ¬ x = y := by omega
        simp [h1, h2, h3, e1]
      · have h3 : x = y := by omega
        subst h3
        simp
theorem str_less {a b : List Int} (ha : Byt a) (hb : Byt b) : Op.bytesLess (strOfNums a).toList (strOfNums b).toList = decide (cmpL a b < 0) := by
  rw [ByteArray.toList_eq, ByteArray.toList_eq, strOfNums_data, strOfNums_data]
  exact less_bytes ha hb
theorem less_any (w : World) (u v : Value) (a b : List Int) (ha : Rd w u a) (hb : Rd w v b) :
    Calls Try.prog 37 #[u, v] w fun e w' => e = .returned (.bool (decide (cmpL a b < 0))) ∧ w' = w := by
  have h1 := run_str ha
  have h2 := run_str hb
  have h3 := str_less ha.1 hb.1
  clear ha hb
  rw [← h3]
  clear h3
  go_enter Try.func37, Try.ntmps37
  go_wp2_with fail
  go_ret
  exact ⟨rfl, rfl⟩

theorem nil_low {m : List Int} (h : 1 ≤ m.length) : cmpL [] m < 0 := by
  cases m with
  | nil => simp at h
  | cons a b => simp [cmpL]
theorem chk_yes {n : List Int} {x : PEnt} {r : List PEnt} (h : cmpL n x.1 < 0) (h1 : x.1.length ≤ 16) (h2 : x.2.length ≤ 64) : chk n (x :: r) ↔ chk x.1 r := by
  rw [chk_cons]
  exact ⟨fun h => h.2, fun h' => ⟨⟨h, low_ne h, h1, h2⟩, h'⟩⟩
/-- The Name ahead of entry q. -/
def ahd (ys : List PEnt) : Nat → List Int
  | 0 => []
  | q + 1 => match ys[q]? with | some x => x.1 | none => []

set_option maxRecDepth 10000 in
set_option maxHeartbeats 800000 in
/-- The document's Right. -/
theorem refRight_any (w : World) (v : Value) (ys : List PEnt) (h : RL REnt 2 Any w v ys) :
    Calls Try.prog 14 #[v] w fun e w' => e = .returned (.bool (decide (rgtL ys))) ∧ Below w.heap.size w w' := by
  by_cases h64 : 64 < ys.length
  · rw [decide_eq_false (fun h => by have := h.1; omega)]
    obtain ⟨ao, cap, rfl, hm⟩ := h.form
    have hd : (64 : Int) < ys.length := by omega
    go_enter Try.func14, Try.ntmps14
    go_wp2_with fail
    go_ret
    exact ⟨rfl, Below.refl _ _⟩
  have hd : decide ((64 : Int) < ys.length) = false := by simp; omega
  by_cases hl : 0 < ys.length
  rotate_left
  · obtain rfl : ys = [] := List.eq_nil_of_length_eq_zero (by omega)
    obtain ⟨ao, cap, rfl, _⟩ := h.form
    go_enter Try.func14, Try.ntmps14
    go_wp2_with fail
    refine wp_loop_rounds 1 ?_; rw [rounds_succ]
    go_wp2_with fail
    go_ret
    exact ⟨ret_bool (by decide), Below.refl _ _⟩
  obtain ⟨b, off, cap, rfl, hc, hm, _, hb, hx⟩ := h.at hl
  have HX := (show Hid (∀ (i : Nat) (a : PEnt), ys[i]? = some a → ∃ r, r.length = 2 ∧ w.rangeAt b (off + i * 2) r ∧ REnt Any w r a) from hx)
  have HR := (show Hid (rgtL ys ↔ chk [] ys) from rgt_chk (by omega))
  have hlm : (ys.length : Int) ≤ 9223372036854775807 := by omega
  clear hx h h64
  obtain ⟨n, hn⟩ : ∃ n, n = ys.length := ⟨_, rfl⟩
  rw [← hn] at hlm hl hc hd ⊢
  have HN := (show Hid (ys.length = n) from hn.symm)
  clear hn
  go_enter Try.func14, Try.ntmps14
  go_wp2_with fail
  go_loopw [10] (fun i wr => ∃ (q : Nat), q ≤ n ∧ i = .int .i64 q ∧ Below w.heap.size w wr ∧ Hid (chk [] ys ↔ chk (ahd ys q) (ys.drop q))) (fun i _ => n - (intOf i).toNat)
  case atStart => exact ⟨0, by omega, rfl, Below.refl _ _, Iff.rfl⟩
  case round =>
    obtain ⟨q, hq, rfl, hB, hI⟩ := hrel
    by_cases hql : q < n
    · obtain ⟨x, hx⟩ : ∃ x, ys[q]? = some x := ⟨_, List.getElem?_eq_getElem (by have := HN.out; omega)⟩
      obtain ⟨r, _, hrng, s1, s2, rfl, t1, t2⟩ := HX.out q x hx
      have hrng := rangeAt_block hrng (hB.block b hb)
      obtain ⟨a1, c1, rfl, hc1⟩ := t1.form
      obtain ⟨a2, c2, rfl, hc2⟩ := t2.form
      have hrow0 := Row.new wr 37 [.slice none 0 0, .slice none 0 0]
      have HD := (show Hid (ys.drop q = x :: ys.drop (q + 1)) from drop_cons hx)
      have HA := (show Hid (ahd ys (q + 1) = x.1) by show (match ys[q]? with | some x => x.1 | none => []) = _; rw [hx])
      have hone := onE2 t1.one t2.one
      clear hx
      obtain ⟨L1, hL1⟩ : ∃ L, x.1.length = L := ⟨_, rfl⟩
      obtain ⟨L2, hL2⟩ : ∃ L, x.2.length = L := ⟨_, rfl⟩
      rw [hL1] at t1 hrng hone
      rw [hL2] at t2 hrng hone
      have HL := (show Hid (x.1.length = L1 ∧ x.2.length = L2) from ⟨hL1, hL2⟩)
      clear hL1 hL2
      go_upto_region 6 with (first
        | (refine wpList_load_mid rfl _ _ rfl b (off + q * 2) rfl [.slice a1 L1 c1, .slice a2 L2 c2] _ hrng Try.underlying37 rfl (by kernel_rfl) ?_)
        | (refine wl_store rfl _ _ _ rfl wr.heap.size [.slice a1 L1 c1, .slice a2 L2 c2] rfl rfl _ _ hrow0 rfl (by kernel_rfl) hone ?_; intro w5 hr5 hg5))
      have hb5 : Below wr.heap.size wr w5 := (below_alloc wr _).trans (grown_below hg5 (by simp) (fun k hk => by cases hk; exact Nat.le_refl _))
      have e0 := hr5.out.cell (j := 0) rfl
      have e1 := hr5.out.cell (j := 1) rfl
      have B5 : Below w.heap.size w w5 := below_and hB (Nat.le_refl _) hb5
      clear hg5 hrow0 hrng hone
      try go_simp
      have bad : ¬ (cmpL (ahd ys q) x.1 < 0 ∧ rgt1 x) → Ending.returned (.bool false) = .returned (.bool (decide (rgtL ys))) := fun hn => ret_bool (decide_eq_false fun h => by
        have := hI.out.1 (HR.out.1 h)
        rw [HD.out, chk_cons] at this
        exact hn this.1).symm
      have BAD := (show Hid (¬ (cmpL (ahd ys q) x.1 < 0 ∧ rgt1 x) → Ending.returned (.bool false) = .returned (.bool (decide (rgtL ys)))) from bad)
      clear bad
      by_cases g1 : L1 = 0
      · have HB := BAD.out fun h => by have := h.2.1; rw [HL.out.1] at this; omega
        subst g1
        go_big_quiet (fail)
        go_wp2_with fail
        go_ret
        exact ⟨HB, bel_dnE B5 _⟩
      have g1' : ((L1 : Int) == 0) = false := by simp; omega
      by_cases g2 : 16 < L1
      · have g2' : (16 : Int) < L1 := by omega
        have HB := BAD.out fun h => by have := h.2.2.1; rw [HL.out.1] at this; omega
        clear g1 g2
        go_big_quiet (fail)
        go_wp2_with fail
        go_ret
        exact ⟨HB, bel_dnE B5 _⟩
      have g2' : decide ((16 : Int) < L1) = false := by simp; omega
      by_cases g3 : 64 < L2
      · have g3' : (64 : Int) < L2 := by omega
        have HB := BAD.out fun h => by have := h.2.2.2; rw [HL.out.2] at this; omega
        clear g1 g2 g3
        go_big_quiet (fail)
        go_wp2_with fail
        go_ret
        exact ⟨HB, bel_dnE B5 _⟩
      have g3' : decide ((64 : Int) < L2) = false := by simp; omega
      cases q with
      | zero =>
        go_big_quiet (fail)
        go_wp2_with fail
        go_roundw
        case rel =>
          refine ⟨1, by omega, by go_num, bel_dnE B5 _, ?_⟩
          have h1 := hI.out
          rw [show ahd ys 0 = [] from rfl, HD.out, chk_yes (nil_low (by rw [HL.out.1]; omega)) (by rw [HL.out.1]; omega) (by rw [HL.out.2]; omega)] at h1
          show chk [] ys ↔ chk (ahd ys (0 + 1)) (ys.drop (0 + 1))
          rw [HA.out]
          exact h1
        case measure => simp [intOf]; omega
      | succ p =>
        obtain ⟨x', hx'⟩ : ∃ x, ys[p]? = some x := ⟨_, List.getElem?_eq_getElem (by have := HN.out; omega)⟩
        obtain ⟨r', _, hrng', s1', s2', rfl, t1', t2'⟩ := HX.out p x' hx'
        have HA' := (show Hid (ahd ys (p + 1) = x'.1) by show (match ys[p]? with | some x => x.1 | none => []) = _; rw [hx'])
        have m0 : w5.cell? ⟨b, off + p * 2, none⟩ = some s1' := (B5.cell (p := ⟨b, off + p * 2, none⟩) hb).trans (hrng' 0 _ rfl)
        have HS := (show Hid (∀ u, Below w.heap.size w u → Calls Try.prog 37 #[s1', .slice a1 L1 c1] u fun e w' => e = .returned (.bool (decide (cmpL x'.1 x.1 < 0))) ∧ w' = u) from fun u hu => less_any u _ _ _ _ (t1'.mv (Mv.below hu)).1 (t1.mv (Mv.below hu)).1)
        have g4' : decide ((0 : Int) < ((p + 1 : Nat) : Int)) = true := by simp
        clear hx'
        by_cases hlt : cmpL x'.1 x.1 < 0
        · rw [decide_eq_true hlt] at HS
          go_big_quiet ((go_at_call 37; exact quiet_as (HS.out _ (bel_dnE B5 _)) rfl))
          go_wp2_with fail
          go_roundw
          case rel =>
            refine ⟨p + 1 + 1, by omega, by go_num, bel_dnE B5 _, ?_⟩
            have h1 := hI.out
            rw [HA'.out, HD.out, chk_yes hlt (by rw [HL.out.1]; omega) (by rw [HL.out.2]; omega)] at h1
            rw [HA.out]
            exact h1
          case measure => simp [intOf]; omega
        · have HB := BAD.out fun h => hlt (by have := h.1; rw [HA'.out] at this; exact this)
          rw [decide_eq_false hlt] at HS
          go_big_quiet ((go_at_call 37; exact quiet_as (HS.out _ (bel_dnE B5 _)) rfl))
          go_wp2_with fail
          go_ret
          exact ⟨HB, bel_dnE B5 _⟩
    · go_wp2_with fail
      go_ret
      refine ⟨ret_bool (decide_eq_true ?_).symm, hB⟩
      rw [HR.out, hI.out, List.drop_of_length_le (by have := HN.out; omega)]
      exact ⟨trivial, fun e he => by cases he⟩
end Go.Proofs.Ytbnioibeckifbaa
end

section
set_option linter.unusedVariables false
set_option linter.unusedSimpArgs false
namespace Go.Proofs.Ytbnioibeckifbaa
open Go.RowKit Oct Kvl

theorem chkS_yes {n : List Int} {x : PEnt} {r : List PEnt} (h : cmpL n x.1 < 0) (h1 : x.1.length ≤ 16) (h2 : 1 ≤ lo x.2 ∧ lo x.2 ≤ 4) (h3 : 1 ≤ lu x.2 ∧ lu x.2 ≤ 2147483647) : chkS n (x :: r) ↔ chkS x.1 r := by
  rw [chkS_cons]
  exact ⟨fun h => h.2, fun h' => ⟨⟨h, ⟨low_ne h, h1⟩, h2, h3⟩, h'⟩⟩

set_option maxRecDepth 10000 in
set_option maxHeartbeats 800000 in
/-- The document's Right. -/
theorem refRightS_any (w : World) (v : Value) (ys : List PEnt) (h : RL RLea 3 Any w v ys) :
    Calls Try.prog 25 #[v] w fun e w' => e = .returned (.bool (decide (rgtS ys))) ∧ Below w.heap.size w w' := by
  by_cases h64 : 16 < ys.length
  · rw [decide_eq_false (fun h => by have := h.1; omega)]
    obtain ⟨ao, cap, rfl, hm⟩ := h.form
    have hd : (16 : Int) < ys.length := by omega
    go_enter Try.func25, Try.ntmps25
    go_wp2_with fail
    go_ret
    exact ⟨rfl, Below.refl _ _⟩
  have hd : decide ((16 : Int) < ys.length) = false := by simp; omega
  by_cases hl : 0 < ys.length
  rotate_left
  · obtain rfl : ys = [] := List.eq_nil_of_length_eq_zero (by omega)
    obtain ⟨ao, cap, rfl, _⟩ := h.form
    go_enter Try.func25, Try.ntmps25
    go_wp2_with fail
    refine wp_loop_rounds 1 ?_; rw [rounds_succ]
    go_wp2_with fail
    go_ret
    exact ⟨ret_bool (by decide), Below.refl _ _⟩
  obtain ⟨b, off, cap, rfl, hc, hm, _, hb, hx⟩ := h.at hl
  have HX := (show Hid (∀ (i : Nat) (a : PEnt), ys[i]? = some a → ∃ r, r.length = 3 ∧ w.rangeAt b (off + i * 3) r ∧ RLea Any w r a) from hx)
  have HR := (show Hid (rgtS ys ↔ chkS [] ys) from rgtS_chk (by omega))
  have hlm : (ys.length : Int) ≤ 9223372036854775807 := by omega
  clear hx h h64
  obtain ⟨n, hn⟩ : ∃ n, n = ys.length := ⟨_, rfl⟩
  rw [← hn] at hlm hl hc hd ⊢
  have HN := (show Hid (ys.length = n) from hn.symm)
  clear hn
  go_enter Try.func25, Try.ntmps25
  go_wp2_with fail
  go_loopw [10] (fun i wr => ∃ (q : Nat), q ≤ n ∧ i = .int .i64 q ∧ Below w.heap.size w wr ∧ Hid (chkS [] ys ↔ chkS (ahd ys q) (ys.drop q))) (fun i _ => n - (intOf i).toNat)
  case atStart => exact ⟨0, by omega, rfl, Below.refl _ _, Iff.rfl⟩
  case round =>
    obtain ⟨q, hq, rfl, hB, hI⟩ := hrel
    by_cases hql : q < n
    · obtain ⟨x, hx⟩ : ∃ x, ys[q]? = some x := ⟨_, List.getElem?_eq_getElem (by have := HN.out; omega)⟩
      obtain ⟨r, _, hrng, s1, p1, q1, rfl, t1, t2⟩ := HX.out q x hx
      have hrng := rangeAt_block hrng (hB.block b hb)
      obtain ⟨a1, c1, rfl, hc1⟩ := t1.form
      have hrow0 := Row.new wr 50 [.slice none 0 0, .int .i64 0, .int .i64 0]
      have HD := (show Hid (ys.drop q = x :: ys.drop (q + 1)) from drop_cons hx)
      have HA := (show Hid (ahd ys (q + 1) = x.1) by show (match ys[q]? with | some x => x.1 | none => []) = _; rw [hx])
      have HP := (show Hid (lo x.2 = p1 ∧ lu x.2 = q1) by rw [t2]; exact ⟨rfl, rfl⟩)
      have hone := onL3 (p := p1) (q := q1) t1.one
      clear hx t2
      obtain ⟨L1, hL1⟩ : ∃ L, x.1.length = L := ⟨_, rfl⟩
      rw [hL1] at t1 hrng hone
      have HL := (show Hid (x.1.length = L1) from hL1)
      clear hL1
      go_upto_region 6 with (first
        | (refine wpList_load_mid rfl _ _ rfl b (off + q * 3) rfl [.slice a1 L1 c1, .int .i64 p1, .int .i64 q1] _ hrng Try.underlying50 rfl (by kernel_rfl) ?_)
        | (refine wl_store rfl _ _ _ rfl wr.heap.size [.slice a1 L1 c1, .int .i64 p1, .int .i64 q1] rfl rfl _ _ hrow0 rfl (by kernel_rfl) hone ?_; intro w5 hr5 hg5))
      have hb5 : Below wr.heap.size wr w5 := (below_alloc wr _).trans (grown_below hg5 (by simp) (fun k hk => by cases hk; exact Nat.le_refl _))
      have e0 := hr5.out.cell (j := 0) rfl
      have e1 := hr5.out.cell (j := 1) rfl
      have e2 := hr5.out.cell (j := 2) rfl
      have B5 : Below w.heap.size w w5 := below_and hB (Nat.le_refl _) hb5
      clear hg5 hrow0 hrng hone
      try go_simp
      have bad : ¬ (cmpL (ahd ys q) x.1 < 0 ∧ rgs1 x) → Ending.returned (.bool false) = .returned (.bool (decide (rgtS ys))) := fun hn => ret_bool (decide_eq_false fun h => by
        have := hI.out.1 (HR.out.1 h)
        rw [HD.out, chkS_cons] at this
        exact hn this.1).symm
      have BAD := (show Hid (¬ (cmpL (ahd ys q) x.1 < 0 ∧ rgs1 x) → Ending.returned (.bool false) = .returned (.bool (decide (rgtS ys)))) from bad)
      clear bad
      by_cases g1 : L1 = 0
      · have HB := BAD.out fun h => by have := h.2.1.1; rw [HL.out] at this; omega
        subst g1
        go_big_quiet (fail)
        go_wp2_with fail
        go_ret
        exact ⟨HB, bel_dnE B5 _⟩
      have g1' : ((L1 : Int) == 0) = false := by simp; omega
      by_cases g2 : 16 < L1
      · have g2' : (16 : Int) < L1 := by omega
        have HB := BAD.out fun h => by have := h.2.1.2; rw [HL.out] at this; omega
        clear g1 g2
        go_big_quiet (fail)
        go_wp2_with fail
        go_ret
        exact ⟨HB, bel_dnE B5 _⟩
      have g2' : decide ((16 : Int) < L1) = false := by simp; omega
      by_cases g3 : p1 < 1
      · have HB := BAD.out fun h => by have := h.2.2.1.1; rw [HP.out.1] at this; omega
        go_big_quiet (fail)
        go_wp2_with fail
        go_ret
        exact ⟨HB, bel_dnE B5 _⟩
      have g3' : decide (p1 < 1) = false := by simp; omega
      by_cases g4 : 4 < p1
      · have HB := BAD.out fun h => by have := h.2.2.1.2; rw [HP.out.1] at this; omega
        go_big_quiet (fail)
        go_wp2_with fail
        go_ret
        exact ⟨HB, bel_dnE B5 _⟩
      have g4' : decide (4 < p1) = false := by simp; omega
      by_cases g5 : q1 < 1
      · have HB := BAD.out fun h => by have := h.2.2.2.1; rw [HP.out.2] at this; omega
        go_big_quiet (fail)
        go_wp2_with fail
        go_ret
        exact ⟨HB, bel_dnE B5 _⟩
      have g5' : decide (q1 < 1) = false := by simp; omega
      by_cases g6 : 2147483647 < q1
      · have HB := BAD.out fun h => by have := h.2.2.2.2; rw [HP.out.2] at this; omega
        go_big_quiet (fail)
        go_wp2_with fail
        go_ret
        exact ⟨HB, bel_dnE B5 _⟩
      have g6' : decide (2147483647 < q1) = false := by simp; omega
      cases q with
      | zero =>
        go_big_quiet (fail)
        go_wp2_with fail
        go_roundw
        case rel =>
          refine ⟨1, by omega, by go_num, bel_dnE B5 _, ?_⟩
          have h1 := hI.out
          rw [show ahd ys 0 = [] from rfl, HD.out, chkS_yes (nil_low (by rw [HL.out]; omega)) (by rw [HL.out]; omega) (by rw [HP.out.1]; omega) (by rw [HP.out.2]; omega)] at h1
          show chkS [] ys ↔ chkS (ahd ys (0 + 1)) (ys.drop (0 + 1))
          rw [HA.out]
          exact h1
        case measure => simp [intOf]; omega
      | succ p =>
        obtain ⟨x', hx'⟩ : ∃ x, ys[p]? = some x := ⟨_, List.getElem?_eq_getElem (by have := HN.out; omega)⟩
        obtain ⟨r', _, hrng', s1', p1', q1', rfl, t1', t2'⟩ := HX.out p x' hx'
        have HA' := (show Hid (ahd ys (p + 1) = x'.1) by show (match ys[p]? with | some x => x.1 | none => []) = _; rw [hx'])
        have m0 : w5.cell? ⟨b, off + p * 3, none⟩ = some s1' := (B5.cell (p := ⟨b, off + p * 3, none⟩) hb).trans (hrng' 0 _ rfl)
        have HS := (show Hid (∀ u, Below w.heap.size w u → Calls Try.prog 37 #[s1', .slice a1 L1 c1] u fun e w' => e = .returned (.bool (decide (cmpL x'.1 x.1 < 0))) ∧ w' = u) from fun u hu => less_any u _ _ _ _ (t1'.mv (Mv.below hu)).1 (t1.mv (Mv.below hu)).1)
        have g4' : decide ((0 : Int) < ((p + 1 : Nat) : Int)) = true := by simp
        clear hx'
        by_cases hlt : cmpL x'.1 x.1 < 0
        · rw [decide_eq_true hlt] at HS
          go_big_quiet ((go_at_call 37; exact quiet_as (HS.out _ (bel_dnE B5 _)) rfl))
          go_wp2_with fail
          go_roundw
          case rel =>
            refine ⟨p + 1 + 1, by omega, by go_num, bel_dnE B5 _, ?_⟩
            have h1 := hI.out
            rw [HA'.out, HD.out, chkS_yes hlt (by rw [HL.out]; omega) (by rw [HP.out.1]; omega) (by rw [HP.out.2]; omega)] at h1
            rw [HA.out]
            exact h1
          case measure => simp [intOf]; omega
        · have HB := BAD.out fun h => hlt (by have := h.1; rw [HA'.out] at this; exact this)
          rw [decide_eq_false hlt] at HS
          go_big_quiet ((go_at_call 37; exact quiet_as (HS.out _ (bel_dnE B5 _)) rfl))
          go_wp2_with fail
          go_ret
          exact ⟨HB, bel_dnE B5 _⟩
    · go_wp2_with fail
      go_ret
      refine ⟨ret_bool (decide_eq_true ?_).symm, hB⟩
      rw [HR.out, hI.out, List.drop_of_length_le (by have := HN.out; omega)]
      exact ⟨trivial, fun e he => by cases he⟩
end Go.Proofs.Ytbnioibeckifbaa
end

section
set_option linter.unusedVariables false
set_option linter.unusedSimpArgs false
namespace Go.Proofs.Ytbnioibeckifbaa
open Go.RowKit Oct Kvl

/-- Entries whose texts lie in memory that was there in w0. -/
def RS (w0 : World) (G : Nat → Prop) (w : World) (r : List Value) (x : PEnt) : Prop := ∀ u, Below w0.heap.size w0 u → REnt Any u r x
theorem mov_rs (w0 : World) : Mov (RS w0) := fun _ _ _ _ _ _ h _ _ => h
theorem RS.of {w0 : World} {r : List Value} {x : PEnt} (h : REnt Any w0 r x) (G : Nat → Prop) (w : World) : RS w0 G w r x := fun u hu => mov_ent _ _ _ _ _ _ h hu.size (Mv.below hu)
theorem LB.rs {w0 w : World} {B : Nat} {v : Value} {zs : List PEnt} (h : LB (RS w0) 37 2 B w v zs) (hb : Below w0.heap.size w0 w) : RL REnt 2 Any w v zs := by
  obtain ⟨rows, h1, h2⟩ := (h.rl (mov_rs w0)).mv (mov_rs w0) (Nat.le_refl _) (Mv.any (w := w))
  exact ⟨rows, h1, h2.mono fun r a h => h w hb⟩
theorem LB.grownS {w0 w w' : World} {v : Value} {zs : List PEnt} {B b : Nat} (h : LB (RS w0) 37 2 B w v zs) (hg : w.grownBy w' (some b)) (hn : v.ownBlock ≠ some b) : LB (RS w0) 37 2 B w' v zs := by
  obtain ⟨rows, h0, h1, h2, h3⟩ := h
  exact ⟨rows, h0, World.ownsRow.kept h1 hg (.inr hn), h2, h3⟩
theorem one_E {w : World} {r : List Value} {x : PEnt} (h : REnt Any w r x) : ∀ u ∈ r, u.oneCell' = true := one_RE h

set_option maxRecDepth 10000 in
set_option maxHeartbeats 8000000 in
theorem refWith_some (w00 w : World) (h00 : Below w00.heap.size w00 w) (bb off cap : Nat) (ys : List PEnt) (hl : 0 < ys.length) (h64 : ys.length ≤ 64) (hc : ys.length ≤ cap) (hm : cap ≤ maxLen) (hbb : bb < w.heap.size)
    (hx : ∀ (i : Nat) (a : PEnt), ys[i]? = some a → ∃ r, r.length = 2 ∧ w.rangeAt bb (off + i * 2) r ∧ REnt Any w00 r a) (nv vv : Value) (n v : List Int) (hn : RT Any w00 nv n) (hv : RT Any w00 vv v) :
    Calls Try.prog 34 #[.slice (some ⟨bb, off, none⟩) ys.length cap, nv, vv] w fun e w' => ∃ v', e = .returned v' ∧ LB (RS w00) 37 2 w.heap.size w' v' (wiF n v false ys) ∧ Below w.heap.size w w' := by
  have HX := (show Hid (∀ (i : Nat) (a : PEnt), ys[i]? = some a → ∃ r, r.length = 2 ∧ w.rangeAt bb (off + i * 2) r ∧ REnt Any w00 r a) from hx)
  have hlm : (ys.length : Int) ≤ 9223372036854775807 := by omega
  obtain ⟨an, cn, rfl, hcn⟩ := hn.form
  obtain ⟨av, cv, rfl, hcv⟩ := hv.form
  have HNV := (show Hid (REnt Any w00 [.slice an n.length cn, .slice av v.length cv] (n, v)) from ⟨_, _, rfl, hn, hv⟩)
  have HS := (show Hid (∀ (u : World) (s : Value) (l : List Int), Below w00.heap.size w00 u → RT Any w00 s l → Calls Try.prog 35 #[s, .slice an n.length cn] u fun e w' => e = .returned (.bool (decide (l = n))) ∧ w' = u) from fun u s l hu hs => same_any u _ _ _ _ (hs.mv (Mv.below hu)).1 (hn.mv (Mv.below hu)).1)
  have HLe := (show Hid (∀ (u : World) (s : Value) (l : List Int), Below w00.heap.size w00 u → RT Any w00 s l → Calls Try.prog 37 #[.slice an n.length cn, s] u fun e w' => e = .returned (.bool (decide (cmpL n l < 0))) ∧ w' = u) from fun u s l hu hs => less_any u _ _ _ _ (hn.mv (Mv.below hu)).1 (hs.mv (Mv.below hu)).1)
  clear hx hn hv
  obtain ⟨Ln, hLn⟩ : ∃ L, n.length = L := ⟨_, rfl⟩
  obtain ⟨Lv, hLv⟩ : ∃ L, v.length = L := ⟨_, rfl⟩
  obtain ⟨N, hN⟩ : ∃ N, ys.length = N := ⟨_, rfl⟩
  rw [hLn] at HS HLe HNV ⊢
  rw [hLv] at HNV ⊢
  rw [hN] at hl h64 hc hlm ⊢
  have HN := (show Hid (ys.length = N) from hN)
  clear hLn hLv hN
  go_enter Try.func34, Try.ntmps34
  go_wp2_with fail
  go_loopw [7, 8, 14] (fun o p i wr => ∃ (q : Nat) (put : Bool) (zs : List PEnt), q ≤ N ∧ i = .int .i64 q ∧ p = .bool put ∧ zs.length ≤ 2 * q ∧ LB (RS w00) 37 2 w.heap.size wr o zs ∧ Below w.heap.size w wr ∧ Hid (wiF n v false ys = zs ++ wiF n v put (ys.drop q))) (fun _ _ i _ => N - (intOf i).toNat)
  case atStart => exact ⟨0, false, [], by omega, rfl, rfl, by simp, LB.fresh _ _ _ _ _ (Nat.le_refl _), below_alloc w _, rfl⟩
  case round =>
    obtain ⟨q, put, zs, hq, rfl, rfl, hzl, hLB, hB, hI⟩ := hrel
    by_cases hql : q < N
    · obtain ⟨x, hx⟩ : ∃ x, ys[q]? = some x := ⟨_, List.getElem?_eq_getElem (by have := HN.out; omega)⟩
      obtain ⟨r, _, hrng, s1, s2, rfl, t1, t2⟩ := HX.out q x hx
      have hrng := rangeAt_block hrng (hB.block bb hbb)
      obtain ⟨a1, c1, rfl, hc1⟩ := t1.form
      obtain ⟨a2, c2, rfl, hc2⟩ := t2.form
      have hrow0 := Row.new wr 37 [.slice none 0 0, .slice none 0 0]
      have HD := (show Hid (ys.drop q = x :: ys.drop (q + 1)) from drop_cons hx)
      clear hx
      have HXE := (show Hid (REnt Any w00 [.slice a1 x.1.length c1, .slice a2 x.2.length c2] x) from ⟨_, _, rfl, t1, t2⟩)
      have HXV := (show Hid (REnt Any w00 [.slice a1 x.1.length c1, .slice av Lv cv] (x.1, v)) by obtain ⟨p1, p2, e, _, q2⟩ := HNV.out; simp only [List.cons.injEq, and_true] at e; obtain ⟨rfl, rfl⟩ := e; exact ⟨_, _, rfl, t1, q2⟩)
      have HT1 := (show Hid (RT Any w00 (.slice a1 x.1.length c1) x.1) from t1)
      have hone := onE2 t1.one t2.one
      clear t1 t2
      obtain ⟨L1, hL1⟩ : ∃ L, x.1.length = L := ⟨_, rfl⟩
      obtain ⟨L2, hL2⟩ : ∃ L, x.2.length = L := ⟨_, rfl⟩
      rw [hL1] at hrng hone HXE HXV HT1
      rw [hL2] at hrng hone HXE
      clear hL1 hL2
      go_upto_region 6 with (first
        | (refine wpList_load_mid rfl _ _ rfl bb (off + q * 2) rfl [.slice a1 L1 c1, .slice a2 L2 c2] _ hrng Try.underlying37 rfl (by kernel_rfl) ?_)
        | (refine wl_store rfl _ _ _ rfl wr.heap.size [.slice a1 L1 c1, .slice a2 L2 c2] rfl rfl _ _ hrow0 rfl (by kernel_rfl) hone ?_; intro w5 hr5 hg5))
      have hb5 : Below wr.heap.size wr w5 := (below_alloc wr _).trans (grown_below hg5 (by simp) (fun k hk => by cases hk; exact Nat.le_refl _))
      have B5 : Below w.heap.size w w5 := below_and hB (Nat.le_refl _) hb5
      have hr5 := hr5.out
      have hLB5 := hLB.below (mov_rs w00) hb5
      have hlt5 : ∀ g, u7.ownBlock = some g → g < wr.heap.size := hLB.lt
      have hs5 : wr.heap.size < w5.heap.size := by
        obtain ⟨hlt, _⟩ := Array.getElem?_eq_some_iff.1 hr5
        exact hlt
      have HS5 := fun u (hu : Below w.heap.size w u) => HS.out u _ x.1 (below_and h00 (Nat.le_refl _) hu) HT1.out
      have HL5 := HLe.out w5 _ x.1 (below_and h00 (Nat.le_refl _) B5) HT1.out
      clear hg5 hrow0 hrng hone hb5 hLB
      have e0 := hr5.cell (j := 0) rfl
      cases put with
      | false =>
        by_cases hlt : cmpL n x.1 < 0
        · rw [decide_eq_true hlt] at HL5
          go_upto_region 9 with (first
            | (go_at_call 37; refine HL5.mono ?_; rintro e w5 ⟨rfl, rfl⟩)
            | (at_builtin; refine wl_push (mov_rs w00) rfl _ _ _ rfl 37 2 48 _ Try.underlying22 Try.infE rfl (by decide) w.heap.size u7 zs rfl hLB5 [.slice an Ln cn, .slice av Lv cv] (n, v) w5.heap.size (RS.of HNV.out _ _) rfl (one_E HNV.out) B5.size (fun g hg => Nat.lt_trans (hlt5 g hg) hs5) rfl B5.size (by omega) (by decide) ?_; intro v6 w6 hLB6 hg6))
          have B6 : Below w.heap.size w w6 := B5.trans (grown_below hg6 B5.size (fun k hk => hLB5.fr k hk))
          have hr6 := hr5.grown hg6 (fun e => by have := hlt5 _ e; omega)
          have e6 := hr6.cell (j := 0) rfl
          have HS6 := HS5 w6 B6
          rw [decide_eq_false (fun e => cmp_lt_ne hlt e.symm)] at HS6
          go_wp2_with (first
            | (go_at_call 35; refine HS6.mono ?_; rintro e w6 ⟨rfl, rfl⟩)
            | (refine wl_load rfl _ _ rfl wr.heap.size rfl _ _ hr6 _ Try.underlying37 rfl (by kernel_rfl) ?_)
            | (at_builtin; refine wl_push (mov_rs w00) rfl _ _ _ rfl 37 2 48 _ Try.underlying22 Try.infE rfl (by decide) w.heap.size v6 (zs ++ [(n, v)]) rfl hLB6 [.slice a1 L1 c1, .slice a2 L2 c2] x w6.heap.size (RS.of HXE.out _ _) rfl (one_E HXE.out) B6.size hLB6.lt rfl B6.size (by rw [List.length_append]; simp only [List.length_cons, List.length_nil]; omega) (by decide) ?_; intro v8 w8 hLB8 hg8))
          have B8 : Below w.heap.size w w8 := B6.trans (grown_below hg8 B6.size (fun k hk => hLB6.fr k hk))
          go_roundw
          case rel => exact ⟨q + 1, true, (zs ++ [(n, v)]) ++ [x], by omega, by go_num, rfl, by simp only [List.length_append, List.length_cons, List.length_nil]; omega, hLB8, B8, by
            show _ = _
            rw [hI.out, HD.out, wiF, if_pos ⟨rfl, hlt⟩, if_neg (fun e => cmp_lt_ne hlt e.symm), decide_eq_true hlt]
            simp⟩
          case measure => simp [intOf]; omega
        rw [decide_eq_false hlt] at HL5
        have HLT := (show Hid (¬ cmpL n x.1 < 0) from hlt)
        by_cases heq : x.1 = n
        · skip
          have HS6 := HS5 w5 B5
          rw [decide_eq_true heq] at HS6
          go_wp2_with (first
            | (go_at_call 37; refine HL5.mono ?_; rintro e w5 ⟨rfl, rfl⟩)
            | (go_at_call 35; refine HS6.mono ?_; rintro e w5 ⟨rfl, rfl⟩)
            | (refine wl_set rfl _ _ _ rfl wr.heap.size 1 _ rfl rfl _ _ hr5 (show 1 < 2 by decide) (by kernel_rfl) rfl ?_; intro w6 hr6 hg6; have hLB6 := hLB5.grownS hg6 (fun e => Nat.lt_irrefl _ (hlt5 _ e)); have B6 : Below w.heap.size w w6 := B5.trans (grown_below hg6 B5.size (fun k hk => by cases hk; exact hB.size)); have s6 : wr.heap.size < w6.heap.size := Nat.lt_of_lt_of_le hs5 hg6.size)
            | (refine wl_load rfl _ _ rfl wr.heap.size rfl _ _ hr6.out _ Try.underlying37 rfl (by kernel_rfl) ?_)
            | (at_builtin; refine wl_push (mov_rs w00) rfl _ _ _ rfl 37 2 48 _ Try.underlying22 Try.infE rfl (by decide) w.heap.size u7 zs rfl hLB6 [.slice a1 L1 c1, .slice av Lv cv] (x.1, v) w6.heap.size (RS.of HXV.out _ _) rfl (one_E HXV.out) B6.size (fun g hg => Nat.lt_trans (hlt5 g hg) s6) rfl B6.size (by omega) (by decide) ?_; intro v8 w8 hLB8 hg8))
          have B8 : Below w.heap.size w w8 := B6.trans (grown_below hg8 B6.size (fun k hk => hLB6.fr k hk))
          go_roundw
          case rel => exact ⟨q + 1, true, zs ++ [(x.1, v)], by omega, by go_num, rfl, by simp only [List.length_append, List.length_cons, List.length_nil]; omega, hLB8, B8, by
            show _ = _
            rw [hI.out, HD.out, wiF, if_neg (fun h => absurd h.2 (by have := HLT.out; omega)), if_pos heq, decide_eq_false (p := cmpL n x.1 < 0) (by have := HLT.out; omega), decide_eq_true heq]
            simp⟩
          case measure => simp [intOf]; omega
        · skip
          have HS6 := HS5 w5 B5
          rw [decide_eq_false heq] at HS6
          go_wp2_with (first
            | (go_at_call 37; refine HL5.mono ?_; rintro e w5 ⟨rfl, rfl⟩)
            | (go_at_call 35; refine HS6.mono ?_; rintro e w5 ⟨rfl, rfl⟩)
            | (refine wl_load rfl _ _ rfl wr.heap.size rfl _ _ hr5 _ Try.underlying37 rfl (by kernel_rfl) ?_)
            | (at_builtin; refine wl_push (mov_rs w00) rfl _ _ _ rfl 37 2 48 _ Try.underlying22 Try.infE rfl (by decide) w.heap.size u7 zs rfl hLB5 [.slice a1 L1 c1, .slice a2 L2 c2] x w5.heap.size (RS.of HXE.out _ _) rfl (one_E HXE.out) B5.size (fun g hg => Nat.lt_trans (hlt5 g hg) hs5) rfl B5.size (by omega) (by decide) ?_; intro v8 w8 hLB8 hg8))
          have B8 : Below w.heap.size w w8 := B5.trans (grown_below hg8 B5.size (fun k hk => hLB5.fr k hk))
          go_roundw
          case rel => exact ⟨q + 1, false, zs ++ [x], by omega, by go_num, rfl, by simp only [List.length_append, List.length_cons, List.length_nil]; omega, hLB8, B8, by
            show _ = _
            rw [hI.out, HD.out, wiF, if_neg (fun h => absurd h.2 (by have := HLT.out; omega)), if_neg heq, decide_eq_false (p := cmpL n x.1 < 0) (by have := HLT.out; omega), decide_eq_false heq]
            simp⟩
          case measure => simp [intOf]; omega
      | true =>
        by_cases heq : x.1 = n
        · skip
          have HS6 := HS5 w5 B5
          rw [decide_eq_true heq] at HS6
          go_wp2_with (first
            | (go_at_call 35; refine HS6.mono ?_; rintro e w5 ⟨rfl, rfl⟩)
            | (refine wl_set rfl _ _ _ rfl wr.heap.size 1 _ rfl rfl _ _ hr5 (show 1 < 2 by decide) (by kernel_rfl) rfl ?_; intro w6 hr6 hg6; have hLB6 := hLB5.grownS hg6 (fun e => Nat.lt_irrefl _ (hlt5 _ e)); have B6 : Below w.heap.size w w6 := B5.trans (grown_below hg6 B5.size (fun k hk => by cases hk; exact hB.size)); have s6 : wr.heap.size < w6.heap.size := Nat.lt_of_lt_of_le hs5 hg6.size)
            | (refine wl_load rfl _ _ rfl wr.heap.size rfl _ _ hr6.out _ Try.underlying37 rfl (by kernel_rfl) ?_)
            | (at_builtin; refine wl_push (mov_rs w00) rfl _ _ _ rfl 37 2 48 _ Try.underlying22 Try.infE rfl (by decide) w.heap.size u7 zs rfl hLB6 [.slice a1 L1 c1, .slice av Lv cv] (x.1, v) w6.heap.size (RS.of HXV.out _ _) rfl (one_E HXV.out) B6.size (fun g hg => Nat.lt_trans (hlt5 g hg) s6) rfl B6.size (by omega) (by decide) ?_; intro v8 w8 hLB8 hg8))
          have B8 : Below w.heap.size w w8 := B6.trans (grown_below hg8 B6.size (fun k hk => hLB6.fr k hk))
          go_roundw
          case rel => exact ⟨q + 1, true, zs ++ [(x.1, v)], by omega, by go_num, rfl, by simp only [List.length_append, List.length_cons, List.length_nil]; omega, hLB8, B8, by
            show _ = _
            rw [hI.out, HD.out, wiF, if_neg (by simp), if_pos heq]
            simp⟩
          case measure => simp [intOf]; omega
        · skip
          have HS6 := HS5 w5 B5
          rw [decide_eq_false heq] at HS6
          go_wp2_with (first
            | (go_at_call 35; refine HS6.mono ?_; rintro e w5 ⟨rfl, rfl⟩)
            | (refine wl_load rfl _ _ rfl wr.heap.size rfl _ _ hr5 _ Try.underlying37 rfl (by kernel_rfl) ?_)
            | (at_builtin; refine wl_push (mov_rs w00) rfl _ _ _ rfl 37 2 48 _ Try.underlying22 Try.infE rfl (by decide) w.heap.size u7 zs rfl hLB5 [.slice a1 L1 c1, .slice a2 L2 c2] x w5.heap.size (RS.of HXE.out _ _) rfl (one_E HXE.out) B5.size (fun g hg => Nat.lt_trans (hlt5 g hg) hs5) rfl B5.size (by omega) (by decide) ?_; intro v8 w8 hLB8 hg8))
          have B8 : Below w.heap.size w w8 := B5.trans (grown_below hg8 B5.size (fun k hk => hLB5.fr k hk))
          go_roundw
          case rel => exact ⟨q + 1, true, zs ++ [x], by omega, by go_num, rfl, by simp only [List.length_append, List.length_cons, List.length_nil]; omega, hLB8, B8, by
            show _ = _
            rw [hI.out, HD.out, wiF, if_neg (by simp), if_neg heq]
            simp⟩
          case measure => simp [intOf]; omega
    · have hLBr := hLB
      have he : ys.drop q = [] := List.drop_of_length_le (by have := HN.out; omega)
      cases put with
      | true =>
        go_wp2_with fail
        go_ret
        refine ⟨_, rfl, ?_, hB⟩
        rw [hI.out, he, wiF, if_pos rfl, List.append_nil]
        exact hLB
      | false =>
        go_wp2_with (at_builtin; refine wl_push (mov_rs w00) rfl _ _ _ rfl 37 2 48 _ Try.underlying22 Try.infE rfl (by decide) w.heap.size u7 zs rfl hLB [.slice an Ln cn, .slice av Lv cv] (n, v) wr.heap.size (RS.of HNV.out _ _) rfl (one_E HNV.out) hB.size hLB.lt rfl hB.size (by omega) (by decide) ?_; intro v8 w8 hLB8 hg8)
        have B8 : Below w.heap.size w w8 := hB.trans (grown_below hg8 hB.size (fun k hk => hLBr.fr k hk))
        go_ret
        refine ⟨_, rfl, ?_, B8⟩
        rw [hI.out, he, wiF, if_neg (by simp)]
        exact hLB8

set_option maxRecDepth 10000 in
set_option maxHeartbeats 2000000 in
theorem refWith_none (w00 w : World) (h00 : Below w00.heap.size w00 w) (ao : Option Addr) (c : Nat) (nv vv : Value) (n v : List Int) (hn : RT Any w00 nv n) (hv : RT Any w00 vv v) :
    Calls Try.prog 34 #[.slice ao 0 c, nv, vv] w fun e w' => ∃ v', e = .returned v' ∧ LB (RS w00) 37 2 w.heap.size w' v' (wiF n v false []) ∧ Below w.heap.size w w' := by
  obtain ⟨an, cn, rfl, hcn⟩ := hn.form
  obtain ⟨av, cv, rfl, hcv⟩ := hv.form
  have HNV := (show Hid (REnt Any w00 [.slice an n.length cn, .slice av v.length cv] (n, v)) from ⟨_, _, rfl, hn, hv⟩)
  have hB := below_alloc w (.cells #[] 37)
  have hLB : LB (RS w00) 37 2 w.heap.size (w.alloc (.cells #[] 37)) (.slice (some ⟨w.heap.size, 0, none⟩) 0 0) [] := LB.fresh _ _ _ _ _ (Nat.le_refl _)
  clear hn hv
  generalize n.length = Ln at *
  generalize v.length = Lv at *
  go_enter Try.func34, Try.ntmps34
  go_wp2_with fail
  obtain ⟨w1, hw1⟩ : ∃ w1, w1 = w.alloc (.cells #[] 37) := ⟨_, rfl⟩
  rw [← hw1] at hB hLB ⊢
  clear hw1
  refine wp_loop_rounds 1 ?_; rw [rounds_succ]
  go_wp2_with (at_builtin; refine wl_push (mov_rs w00) rfl _ _ _ rfl 37 2 48 _ Try.underlying22 Try.infE rfl (by decide) w.heap.size (.slice (some ⟨w.heap.size, 0, none⟩) 0 0) [] rfl hLB [.slice an Ln cn, .slice av Lv cv] (n, v) w1.heap.size (RS.of HNV.out _ _) rfl (one_E HNV.out) hB.size hLB.lt rfl hB.size (by decide) (by decide) ?_; intro v8 w8 hLB8 hg8)
  have B8 : Below w.heap.size w w8 := hB.trans (grown_below hg8 hB.size (fun k hk => hLB.fr k hk))
  go_ret
  refine ⟨_, rfl, ?_, B8⟩
  rw [wiF, if_neg (by simp)]
  exact hLB8
/-- The document's With. -/
theorem refWith_any (w00 w : World) (h00 : Below w00.heap.size w00 w) (ev : Value) (ys : List PEnt) (h : RL REnt 2 Any w00 ev ys) (h64 : ys.length ≤ 64) (nv vv : Value) (n v : List Int) (hn : RT Any w00 nv n) (hv : RT Any w00 vv v) :
    Calls Try.prog 34 #[ev, nv, vv] w fun e w' => ∃ v', e = .returned v' ∧ LB (RS w00) 37 2 w.heap.size w' v' (wiF n v false ys) ∧ Below w.heap.size w w' := by
  by_cases hl : 0 < ys.length
  · obtain ⟨b1, o1, c1, rfl, hc1, hm1, _, hb1, hx1⟩ := h.at hl
    exact refWith_some w00 w h00 b1 o1 c1 ys hl h64 hc1 hm1 (Nat.lt_of_lt_of_le hb1 h00.size) (fun i a ha => by obtain ⟨r, e1, e2, e3⟩ := hx1 i a ha; exact ⟨r, e1, rangeAt_block e2 (h00.block _ hb1), e3⟩) nv vv n v hn hv
  · obtain rfl : ys = [] := List.eq_nil_of_length_eq_zero (by omega)
    obtain ⟨ao, c, rfl, _⟩ := h.form
    exact refWith_none w00 w h00 ao c nv vv n v hn hv
end Go.Proofs.Ytbnioibeckifbaa
end
