/- The document's RightOp. -/
import Derived.Test.YtejkkhlblnepeaaGreatKs
set_option linter.unusedVariables false
set_option linter.unusedSimpArgs false
namespace Go.Proofs.YtejkkhlblnepeaaGreat
open Go.RowKit Oct Kvl

theorem wok_iff (o : POp) : wok o ↔ ((1 ≤ o.1 ∧ o.1 ≤ 8) ∧ (1 ≤ o.2.1.length ∧ o.2.1.length ≤ 16) ∧ o.2.2.1.length ≤ 64 ∧ o.2.2.2.1.length ≤ 64) ∧ (o.1 = 2 → o.2.2.2.1.length = 0 ∧ o.2.2.2.2 = 0) ∧ (o.1 = 3 → o.2.2.2.2 = 0) ∧ ((o.1 = 5 ∨ o.1 = 6) → o.2.2.1.length = 0 ∧ o.2.2.2.1.length = 0 ∧ 1 ≤ o.2.2.2.2 ∧ o.2.2.2.2 ≤ 1000) ∧ ((o.1 ≠ 2 ∧ o.1 ≠ 3 ∧ o.1 ≠ 5 ∧ o.1 ≠ 6) → o.2.2.1.length = 0 ∧ o.2.2.2.1.length = 0 ∧ o.2.2.2.2 = 0) := by
  unfold wok mA mB lN mN
  generalize o.2.1.length = Ln
  generalize o.2.2.1.length = La
  generalize o.2.2.2.1.length = Lb
  generalize o.2.2.2.2 = u
  generalize o.1 = k
  by_cases h2 : k = 2
  · subst h2; simp; omega
  by_cases h3 : k = 3
  · subst h3; simp; omega
  by_cases h5 : k = 5
  · subst h5; simp; omega
  by_cases h6 : k = 6
  · subst h6; simp; omega
  simp only [h2, h3, h5, h6, or_self, if_false]
  simp
  omega

set_option maxRecDepth 10000 in
set_option maxHeartbeats 8000000 in
/-- The document's RightOp. -/
theorem rightOp_any (w : World) (r : List Value) (o : POp) (h : ROp Any w r o) :
    Calls Tryz.prog 65 #[.agg r.toArray] w fun e w' => e = .returned (.bool (decide (wok o))) ∧ Below w.heap.size w w' := by
  have hw := wok_iff o
  obtain ⟨k, on, oa, ob, u⟩ := o
  obtain ⟨vn, va, vb, rfl, rn, ra', rb'⟩ := h
  obtain ⟨an, cn, rfl, hcn⟩ := rn.form
  obtain ⟨aa, ca, rfl, hca⟩ := ra'.form
  obtain ⟨ab, cb, rfl, hcb⟩ := rb'.form
  simp only at hw hcn hca hcb ⊢
  obtain ⟨d, hd⟩ : ∃ d, d = decide (wok (k, on, oa, ob, u)) := ⟨_, rfl⟩
  rw [← hd]
  have HY : d = true ↔ wok (k, on, oa, ob, u) := by rw [hd, decide_eq_true_eq]
  rw [hw] at HY
  clear hw hd rn ra' rb' hcn hca hcb
  generalize on.length = Ln at *
  generalize oa.length = La at *
  generalize ob.length = Lb at *
  clear on oa ob
  obtain ⟨w0, hw0⟩ : ∃ w0, w0 = w.alloc (.cells #[.int .i64 k, .slice an Ln cn, .slice aa La ca, .slice ab Lb cb, .int .i64 u] 56) := ⟨_, rfl⟩
  have x0 : Row w0 w.heap.size 56 [.int .i64 k, .slice an Ln cn, .slice aa La ca, .slice ab Lb cb, .int .i64 u] := by rw [hw0]; exact Row.new w 56 _
  have B0 : Below w.heap.size w w0 := by rw [hw0]; exact below_alloc _ _
  have c0 := x0.cell (j := 0) rfl
  have c1 := x0.cell (j := 1) rfl
  have c2 := x0.cell (j := 2) rfl
  have c3 := x0.cell (j := 3) rfl
  have c4 := x0.cell (j := 4) rfl
  clear x0
  by_cases t1 : k < 1
  · skip
    obtain rfl : d = false := (Bool.eq_false_iff.2 fun h => by have := HY.1 h; omega)
    clear HY
    try clear t3
    try clear za
    try clear zb
    try clear zu
    go_enter Tryz.func65, Tryz.ntmps65
    go_upto_region 1 with fail
    rw [← hw0]
    clear hw0
    go_wp2_with fail
    go_ret
    exact ⟨rfl, B0⟩
  have f1 : decide (k < 1) = false := by simp; omega
  by_cases t2 : 8 < k
  · skip
    obtain rfl : d = false := (Bool.eq_false_iff.2 fun h => by have := HY.1 h; omega)
    clear HY
    try clear t3
    try clear za
    try clear zb
    try clear zu
    go_enter Tryz.func65, Tryz.ntmps65
    go_upto_region 1 with fail
    rw [← hw0]
    clear hw0
    go_wp2_with fail
    go_ret
    exact ⟨rfl, B0⟩
  have f2 : decide (8 < k) = false := by simp; omega
  by_cases t3 : Ln = 0
  · have f3 : ((Ln : Int) == 0) = true := by simp; omega
    obtain rfl : d = false := (Bool.eq_false_iff.2 fun h => by have := HY.1 h; omega)
    clear HY
    try clear t3
    try clear za
    try clear zb
    try clear zu
    go_enter Tryz.func65, Tryz.ntmps65
    go_upto_region 1 with fail
    rw [← hw0]
    clear hw0
    go_wp2_with fail
    go_ret
    exact ⟨rfl, B0⟩
  have f3 : ((Ln : Int) == 0) = false := by simp; omega
  by_cases t4 : 16 < Ln
  · have f4 : (16 : Int) < Ln := by omega
    obtain rfl : d = false := (Bool.eq_false_iff.2 fun h => by have := HY.1 h; omega)
    clear HY
    try clear t3
    try clear za
    try clear zb
    try clear zu
    go_enter Tryz.func65, Tryz.ntmps65
    go_upto_region 1 with fail
    rw [← hw0]
    clear hw0
    go_wp2_with fail
    go_ret
    exact ⟨rfl, B0⟩
  have f4 : decide ((16 : Int) < Ln) = false := by simp; omega
  by_cases t5 : 64 < La
  · have f5 : (64 : Int) < La := by omega
    obtain rfl : d = false := (Bool.eq_false_iff.2 fun h => by have := HY.1 h; omega)
    clear HY
    try clear t3
    try clear za
    try clear zb
    try clear zu
    go_enter Tryz.func65, Tryz.ntmps65
    go_upto_region 1 with fail
    rw [← hw0]
    clear hw0
    go_wp2_with fail
    go_ret
    exact ⟨rfl, B0⟩
  have f5 : decide ((64 : Int) < La) = false := by simp; omega
  by_cases t6 : 64 < Lb
  · have f6 : (64 : Int) < Lb := by omega
    obtain rfl : d = false := (Bool.eq_false_iff.2 fun h => by have := HY.1 h; omega)
    clear HY
    try clear t3
    try clear za
    try clear zb
    try clear zu
    go_enter Tryz.func65, Tryz.ntmps65
    go_upto_region 1 with fail
    rw [← hw0]
    clear hw0
    go_wp2_with fail
    go_ret
    exact ⟨rfl, B0⟩
  have f6 : decide ((64 : Int) < Lb) = false := by simp; omega
  by_cases q2 : k = 2
  · subst q2
    clear f1 f2
    by_cases zb : Lb = 0
    rotate_left
    · have gzb : ((Lb : Int) == 0) = false := by simp; omega
      obtain rfl : d = false := (Bool.eq_false_iff.2 fun h => by have := HY.1 h; omega)
      clear HY
      try clear t3
      try clear za
      try clear zb
      try clear zu
      go_enter Tryz.func65, Tryz.ntmps65
      go_upto_region 1 with fail
      rw [← hw0]
      clear hw0
      go_wp2_with fail
      go_ret
      exact ⟨rfl, B0⟩
    have gzb : ((Lb : Int) == 0) = true := by simp; omega
    by_cases zu : u = 0
    rotate_left
    · have gzu : ((u : Int) == 0) = false := by simp; omega
      obtain rfl : d = false := (Bool.eq_false_iff.2 fun h => by have := HY.1 h; omega)
      clear HY
      try clear t3
      try clear za
      try clear zb
      try clear zu
      go_enter Tryz.func65, Tryz.ntmps65
      go_upto_region 1 with fail
      rw [← hw0]
      clear hw0
      go_wp2_with fail
      go_ret
      exact ⟨rfl, B0⟩
    have gzu : ((u : Int) == 0) = true := by simp; omega
    obtain rfl : d = true := (HY.2 (by omega))
    clear HY
    try clear t3
    try clear za
    try clear zb
    try clear zu
    go_enter Tryz.func65, Tryz.ntmps65
    go_upto_region 1 with fail
    rw [← hw0]
    clear hw0
    go_wp2_with fail
    go_ret
    exact ⟨rfl, B0⟩
  have b2 : (k == 2) = false := by simp [q2]
  by_cases q3 : k = 3
  · subst q3
    clear f1 f2
    by_cases zu : u = 0
    rotate_left
    · have gzu : ((u : Int) == 0) = false := by simp; omega
      obtain rfl : d = false := (Bool.eq_false_iff.2 fun h => by have := HY.1 h; omega)
      clear HY
      try clear t3
      try clear za
      try clear zb
      try clear zu
      go_enter Tryz.func65, Tryz.ntmps65
      go_upto_region 1 with fail
      rw [← hw0]
      clear hw0
      go_wp2_with fail
      go_ret
      exact ⟨rfl, B0⟩
    have gzu : ((u : Int) == 0) = true := by simp; omega
    obtain rfl : d = true := (HY.2 (by omega))
    clear HY
    try clear t3
    try clear za
    try clear zb
    try clear zu
    go_enter Tryz.func65, Tryz.ntmps65
    go_upto_region 1 with fail
    rw [← hw0]
    clear hw0
    go_wp2_with fail
    go_ret
    exact ⟨rfl, B0⟩
  have b3 : (k == 3) = false := by simp [q3]
  by_cases q5 : k = 5
  · subst q5
    clear f1 f2
    by_cases za : La = 0
    rotate_left
    · have gza : ((La : Int) == 0) = false := by simp; omega
      obtain rfl : d = false := (Bool.eq_false_iff.2 fun h => by have := HY.1 h; omega)
      clear HY
      try clear t3
      try clear za
      try clear zb
      try clear zu
      go_enter Tryz.func65, Tryz.ntmps65
      go_upto_region 1 with fail
      rw [← hw0]
      clear hw0
      go_wp2_with fail
      go_ret
      exact ⟨rfl, B0⟩
    have gza : ((La : Int) == 0) = true := by simp; omega
    by_cases zb : Lb = 0
    rotate_left
    · have gzb : ((Lb : Int) == 0) = false := by simp; omega
      obtain rfl : d = false := (Bool.eq_false_iff.2 fun h => by have := HY.1 h; omega)
      clear HY
      try clear t3
      try clear za
      try clear zb
      try clear zu
      go_enter Tryz.func65, Tryz.ntmps65
      go_upto_region 1 with fail
      rw [← hw0]
      clear hw0
      go_wp2_with fail
      go_ret
      exact ⟨rfl, B0⟩
    have gzb : ((Lb : Int) == 0) = true := by simp; omega
    by_cases m1 : 1 ≤ u
    rotate_left
    · have n1 : decide (1 ≤ u) = false := by simp; omega
      obtain rfl : d = false := (Bool.eq_false_iff.2 fun h => by have := HY.1 h; omega)
      clear HY
      try clear t3
      try clear za
      try clear zb
      try clear zu
      go_enter Tryz.func65, Tryz.ntmps65
      go_upto_region 1 with fail
      rw [← hw0]
      clear hw0
      go_wp2_with fail
      go_ret
      exact ⟨rfl, B0⟩
    by_cases m2 : u ≤ 1000
    rotate_left
    · have n2 : decide (u ≤ 1000) = false := by simp; omega
      obtain rfl : d = false := (Bool.eq_false_iff.2 fun h => by have := HY.1 h; omega)
      clear HY
      try clear t3
      try clear za
      try clear zb
      try clear zu
      go_enter Tryz.func65, Tryz.ntmps65
      go_upto_region 1 with fail
      rw [← hw0]
      clear hw0
      go_wp2_with fail
      go_ret
      exact ⟨rfl, B0⟩
    obtain rfl : d = true := (HY.2 (by omega))
    clear HY
    try clear t3
    try clear za
    try clear zb
    try clear zu
    go_enter Tryz.func65, Tryz.ntmps65
    go_upto_region 1 with fail
    rw [← hw0]
    clear hw0
    go_wp2_with fail
    go_ret
    exact ⟨rfl, B0⟩
  have b5 : (k == 5) = false := by simp [q5]
  by_cases q6 : k = 6
  · subst q6
    clear f1 f2
    by_cases za : La = 0
    rotate_left
    · have gza : ((La : Int) == 0) = false := by simp; omega
      obtain rfl : d = false := (Bool.eq_false_iff.2 fun h => by have := HY.1 h; omega)
      clear HY
      try clear t3
      try clear za
      try clear zb
      try clear zu
      go_enter Tryz.func65, Tryz.ntmps65
      go_upto_region 1 with fail
      rw [← hw0]
      clear hw0
      go_wp2_with fail
      go_ret
      exact ⟨rfl, B0⟩
    have gza : ((La : Int) == 0) = true := by simp; omega
    by_cases zb : Lb = 0
    rotate_left
    · have gzb : ((Lb : Int) == 0) = false := by simp; omega
      obtain rfl : d = false := (Bool.eq_false_iff.2 fun h => by have := HY.1 h; omega)
      clear HY
      try clear t3
      try clear za
      try clear zb
      try clear zu
      go_enter Tryz.func65, Tryz.ntmps65
      go_upto_region 1 with fail
      rw [← hw0]
      clear hw0
      go_wp2_with fail
      go_ret
      exact ⟨rfl, B0⟩
    have gzb : ((Lb : Int) == 0) = true := by simp; omega
    by_cases m1 : 1 ≤ u
    rotate_left
    · have n1 : decide (1 ≤ u) = false := by simp; omega
      obtain rfl : d = false := (Bool.eq_false_iff.2 fun h => by have := HY.1 h; omega)
      clear HY
      try clear t3
      try clear za
      try clear zb
      try clear zu
      go_enter Tryz.func65, Tryz.ntmps65
      go_upto_region 1 with fail
      rw [← hw0]
      clear hw0
      go_wp2_with fail
      go_ret
      exact ⟨rfl, B0⟩
    by_cases m2 : u ≤ 1000
    rotate_left
    · have n2 : decide (u ≤ 1000) = false := by simp; omega
      obtain rfl : d = false := (Bool.eq_false_iff.2 fun h => by have := HY.1 h; omega)
      clear HY
      try clear t3
      try clear za
      try clear zb
      try clear zu
      go_enter Tryz.func65, Tryz.ntmps65
      go_upto_region 1 with fail
      rw [← hw0]
      clear hw0
      go_wp2_with fail
      go_ret
      exact ⟨rfl, B0⟩
    obtain rfl : d = true := (HY.2 (by omega))
    clear HY
    try clear t3
    try clear za
    try clear zb
    try clear zu
    go_enter Tryz.func65, Tryz.ntmps65
    go_upto_region 1 with fail
    rw [← hw0]
    clear hw0
    go_wp2_with fail
    go_ret
    exact ⟨rfl, B0⟩
  have b6 : (k == 6) = false := by simp [q6]
  by_cases za : La = 0
  rotate_left
  · have gza : ((La : Int) == 0) = false := by simp; omega
    obtain rfl : d = false := (Bool.eq_false_iff.2 fun h => by have := HY.1 h; omega)
    clear HY
    try clear t3
    try clear za
    try clear zb
    try clear zu
    go_enter Tryz.func65, Tryz.ntmps65
    go_upto_region 1 with fail
    rw [← hw0]
    clear hw0
    go_wp2_with fail
    go_ret
    exact ⟨rfl, B0⟩
  have gza : ((La : Int) == 0) = true := by simp; omega
  by_cases zb : Lb = 0
  rotate_left
  · have gzb : ((Lb : Int) == 0) = false := by simp; omega
    obtain rfl : d = false := (Bool.eq_false_iff.2 fun h => by have := HY.1 h; omega)
    clear HY
    try clear t3
    try clear za
    try clear zb
    try clear zu
    go_enter Tryz.func65, Tryz.ntmps65
    go_upto_region 1 with fail
    rw [← hw0]
    clear hw0
    go_wp2_with fail
    go_ret
    exact ⟨rfl, B0⟩
  have gzb : ((Lb : Int) == 0) = true := by simp; omega
  by_cases zu : u = 0
  rotate_left
  · have gzu : ((u : Int) == 0) = false := by simp; omega
    obtain rfl : d = false := (Bool.eq_false_iff.2 fun h => by have := HY.1 h; omega)
    clear HY
    try clear t3
    try clear za
    try clear zb
    try clear zu
    go_enter Tryz.func65, Tryz.ntmps65
    go_upto_region 1 with fail
    rw [← hw0]
    clear hw0
    go_wp2_with fail
    go_ret
    exact ⟨rfl, B0⟩
  have gzu : ((u : Int) == 0) = true := by simp; omega
  obtain rfl : d = true := (HY.2 (by omega))
  clear HY
  try clear t3
  try clear za
  try clear zb
  try clear zu
  go_enter Tryz.func65, Tryz.ntmps65
  go_upto_region 1 with fail
  rw [← hw0]
  clear hw0
  go_wp2_with fail
  go_ret
  exact ⟨rfl, B0⟩
end Go.Proofs.YtejkkhlblnepeaaGreat
