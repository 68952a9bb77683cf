/- The walks over package kv: which operations can be written; bytes.Compare. -/
import Derived.Test.YteafgdidjdfiiaaGreatKe
import Derived.Lib.BytesEntry
import Derived.Laws.Externs
set_option linter.unusedVariables false
set_option linter.unusedSimpArgs false
namespace Go.Proofs.YteafgdidjdfiiaaGreat
open Go.RowKit Oct Kvl

theorem u8_lt {x y : Int} (hx : 0 ≤ x ∧ x ≤ 255) (hy : 0 ≤ y ∧ y ≤ 255) : (x.toNat.toUInt8 < y.toNat.toUInt8) ↔ x < y := by
  rw [UInt8.lt_iff_toNat_lt]
  simp
  omega
theorem cmp_bytes : ∀ {a b : List Int}, Byt a → Byt b → Lib.compareBytes (Lib.bytesOf a) (Lib.bytesOf b) = cmpL a b
  | [], [], _, _ => rfl
  | [], _ :: _, _, _ => rfl
  | _ :: _, [], _, _ => rfl
  | x :: a, y :: b, ha, hb => by
    have hx := ha x (by simp)
    have hy := hb y (by simp)
    have ih := cmp_bytes (a := a) (b := b) (fun z hz => ha z (by simp [hz])) (fun z hz => hb z (by simp [hz]))
    show (if x.toNat.toUInt8 < y.toNat.toUInt8 then -1 else if y.toNat.toUInt8 < x.toNat.toUInt8 then 1 else Lib.compareBytes (Lib.bytesOf a) (Lib.bytesOf b)) = _
    unfold cmpL
    rw [ih]
    simp only [u8_lt hx hy, u8_lt hy hx]
theorem run_bytesOf {P : Program} {w : World} {v : Value} {l : List Int} (h : Rd w v l) : (Extern.Bytes.bytesOf v).run P w = .ok ⟨(Lib.bytesOf l).toArray⟩ w := by
  obtain ⟨hb, ao, cap, rfl, h1, h2, h3, h4⟩ := h
  cases ao with
  | none =>
    have := (h3 rfl).1
    simp [bc] at this
    subst this
    rfl
  | some a =>
    have := Lib.run_loadBytesX (P := P) w l a .empty (fun j x hj => h4 a rfl j _ (by rw [bc_at, hj]; rfl))
    rw [bc_len]
    show Sem.run P (Extern.Bytes.loadBytes a l.length .empty) w = _
    rw [this]
    congr 1
    apply ByteArray.ext
    show (#[] : Array UInt8) ++ (Lib.bytesOf l).toArray = (Lib.bytesOf l).toArray
    simp
theorem run_cmp {w : World} {u v : Value} {a b : List Int} (ha : Rd w u a) (hb : Rd w v b) : (callFunc 89 #[u, v]).run Tryz.prog w = .ok (.value (.int .i64 (cmpL a b))) w := by
  rw [run_callFunc_extern Tryz.func89 (by kernel_rfl) (by kernel_rfl) (by kernel_rfl) (e := Extern.BytealgCompare.compare) (by kernel_rfl)]
  have h : (Extern.BytealgCompare.compare #[u, v]).run Tryz.prog w = .ok (.int .i64 (cmpL a b)) w := by
    show Sem.run Tryz.prog (do pure (goInt (Extern.BytealgCompare.cmp (← Extern.Bytes.bytesOf u) (← Extern.Bytes.bytesOf v)))) w = _
    simp only [Sem.run_bind, run_bytesOf ha, run_bytesOf hb, Result.andThen, Sem.run_pure, Lib.cmp_eq]
    rw [cmp_bytes ha.1 hb.1]
    rfl
  rw [h]
  rfl
/-- bytes.Compare. -/
theorem compare_any (w : World) (u v : Value) (a b : List Int) (ha : Rd w u a) (hb : Rd w v b) :
    Calls Tryz.prog 74 #[u, v] w fun e w' => e = .returned (.int .i64 (cmpL a b)) ∧ w' = w := by
  have h := run_cmp ha hb
  go_enter Tryz.func74, Tryz.ntmps74
  go_wp2_with (simp only [h])
  go_ret
  exact ⟨rfl, rfl⟩

/-! Which operations can be written. -/
def wB (n a b : Int) : Bool := decide (n < a) || decide (b < n)
def wI (n a b : Int) : Int := if wB n a b = true then 71 else 0
theorem within_any (w : World) (n a b : Int) : Calls Tryz.prog 119 #[.int .i64 n, .int .i64 a, .int .i64 b] w fun e w' => e = .returned (.int .i64 (wI n a b)) ∧ w' = w := by
  unfold wI wB
  by_cases h1 : n < a
  · rw [if_pos (by simp [h1])]
    go_enter Tryz.func119, Tryz.ntmps119
    go_wp2_with fail
    go_ret
    exact ⟨rfl, rfl⟩
  · by_cases h2 : b < n
    · rw [if_pos (by simp [h2])]
      go_enter Tryz.func119, Tryz.ntmps119
      go_wp2_with fail
      go_ret
      exact ⟨rfl, rfl⟩
    · rw [if_neg (by simp [h1, h2])]
      go_enter Tryz.func119, Tryz.ntmps119
      go_wp2_with fail
      go_ret
      exact ⟨rfl, rfl⟩
theorem results_tmp4 {fn : Func} {t u v x : Tmp} (h : fn.results = #[.tmp t, .tmp u, .tmp v, .tmp x]) (tmps : Array Value) (P : Program) (w : World) :
    (results fn tmps).run P w = .ok (.tuple #[tmps.getD t undef, tmps.getD u undef, tmps.getD v undef, tmps.getD x undef]) w := by
  simp [results, h]
theorem limits_any (w : World) (k : Int) : Calls Tryz.prog 118 #[.int .i64 k] w fun e w' => e = .returned (.tuple #[.int .i64 (mA k), .int .i64 (mB k), .int .i64 (lN k), .int .i64 (mN k)]) ∧ w' = w := by
  unfold mA mB lN mN
  by_cases h2 : k = 2
  · subst h2
    go_enter Tryz.func118, Tryz.ntmps118
    go_wp2_with fail
    refine bodyPost_ret (results_tmp4 rfl _ _ _) rfl ?_
    exact ⟨rfl, rfl⟩
  by_cases h3 : k = 3
  · subst h3
    go_enter Tryz.func118, Tryz.ntmps118
    go_wp2_with fail
    refine bodyPost_ret (results_tmp4 rfl _ _ _) rfl ?_
    exact ⟨rfl, rfl⟩
  by_cases h5 : k = 5
  · subst h5
    go_enter Tryz.func118, Tryz.ntmps118
    go_wp2_with fail
    refine bodyPost_ret (results_tmp4 rfl _ _ _) rfl ?_
    exact ⟨rfl, rfl⟩
  by_cases h6 : k = 6
  · subst h6
    go_enter Tryz.func118, Tryz.ntmps118
    go_wp2_with fail
    refine bodyPost_ret (results_tmp4 rfl _ _ _) rfl ?_
    exact ⟨rfl, rfl⟩
  rw [if_neg (by omega), if_neg (by omega), if_neg (by omega), if_neg (by omega)]
  have b2 : (k == 2) = false := by simp [h2]
  have b3 : (k == 3) = false := by simp [h3]
  have b5 : (k == 5) = false := by simp [h5]
  have b6 : (k == 6) = false := by simp [h6]
  clear h2 h3 h5 h6
  go_enter Tryz.func118, Tryz.ntmps118
  go_wp2_with fail
  refine bodyPost_ret (results_tmp4 rfl _ _ _) rfl ?_
  exact ⟨rfl, rfl⟩

/-- An operation's five errors. -/
def errsO (o : POp) : List Int := [wI o.1 1 8, wI o.2.1.length 1 16, wI o.2.2.1.length 0 (mA o.1), wI o.2.2.2.1.length 0 (mB o.1), wI o.2.2.2.2 (lN o.1) (mN o.1)]
theorem wI_zero {n a b : Int} : wI n a b = 0 ↔ a ≤ n ∧ n ≤ b := by
  unfold wI wB
  by_cases h1 : n < a
  · simp [h1]; omega
  · by_cases h2 : b < n
    · simp [h2]
    · simp [h1, h2]; omega
theorem errs_wok (o : POp) : errsO o = [0, 0, 0, 0, 0] ↔ wok o := by
  unfold errsO wok
  simp only [List.cons.injEq, wI_zero, and_true, eq_self]
  omega
theorem oneI {l : List Int} : ∀ v ∈ l.map (Value.int .i64), v.oneCell' = true := by
  intro v hv
  obtain ⟨x, _, rfl⟩ := List.mem_map.1 hv
  rfl

set_option maxRecDepth 10000 in
set_option maxHeartbeats 2000000 in
/-- kv.check. -/
theorem check_any (w : World) (r : List Value) (o : POp) (h : ROp Any w r o) :
    Calls Tryz.prog 105 #[.agg r.toArray] w fun e w' => e = .returned (.agg ((errsO o).map (Value.int .i64)).toArray) ∧ Below w.heap.size w w' := by
  obtain ⟨vn, va, vb, rfl, hn, ha, hb⟩ := h
  obtain ⟨an, cn, rfl, hcn⟩ := hn.form
  obtain ⟨aa, ca, rfl, hca⟩ := ha.form
  obtain ⟨ab, cb, rfl, hcb⟩ := hb.form
  obtain ⟨w0, hw0⟩ : ∃ w0, w0 = (w.alloc (.cells #[.int .i64 o.1, .slice an o.2.1.length cn, .slice aa o.2.2.1.length ca, .slice ab o.2.2.2.1.length cb, .int .i64 o.2.2.2.2] 127)).alloc (.cells #[.int .i64 0, .int .i64 0, .int .i64 0, .int .i64 0, .int .i64 0] 141) := ⟨_, rfl⟩
  have ra : Row w0 w.heap.size 127 [.int .i64 o.1, .slice an o.2.1.length cn, .slice aa o.2.2.1.length ca, .slice ab o.2.2.2.1.length cb, .int .i64 o.2.2.2.2] := by rw [hw0]; exact rowA (Row.new w 127 _) _
  have rr : Row w0 (w.heap.size + 1) 141 [.int .i64 0, .int .i64 0, .int .i64 0, .int .i64 0, .int .i64 0] := by
    rw [hw0]
    have := Row.new (w.alloc (.cells #[.int .i64 o.1, .slice an o.2.1.length cn, .slice aa o.2.2.1.length ca, .slice ab o.2.2.2.1.length cb, .int .i64 o.2.2.2.2] 127)) 141 [.int .i64 0, .int .i64 0, .int .i64 0, .int .i64 0, .int .i64 0]
    simpa using this
  have B0 : Below w.heap.size w w0 := by rw [hw0]; exact ((Below.refl _ w).alloc (Nat.le_refl _) _).alloc (by simp) _
  have HW := (show Hid (∀ (u : World) (n a b : Int), Calls Tryz.prog 119 #[.int .i64 n, .int .i64 a, .int .i64 b] u fun e w' => e = .returned (.int .i64 (wI n a b)) ∧ w' = u) from within_any)
  have hL := limits_any w0 o.1
  have a0 := ra.cell (j := 0) rfl; have a1 := ra.cell (j := 1) rfl; have a2 := ra.cell (j := 2) rfl; have a3 := ra.cell (j := 3) rfl; have a4 := ra.cell (j := 4) rfl
  go_enter Tryz.func105, Tryz.ntmps105
  go_upto_region 1 with fail
  rw [← hw0]
  clear hw0
  go_wp2_with (go_at_call 118; refine hL.mono ?_; rintro e w0 ⟨rfl, rfl⟩)
  have SK := (show Hid (∀ u, Below w0.heap.size w0 u → u.cell? ⟨w.heap.size, 0, none⟩ = some (.int .i64 o.1) ∧ u.cell? ⟨w.heap.size, 1, none⟩ = some (.slice an o.2.1.length cn) ∧ u.cell? ⟨w.heap.size, 2, none⟩ = some (.slice aa o.2.2.1.length ca) ∧ u.cell? ⟨w.heap.size, 3, none⟩ = some (.slice ab o.2.2.2.1.length cb) ∧ u.cell? ⟨w.heap.size, 4, none⟩ = some (.int .i64 o.2.2.2.2)) from fun u hu => ⟨(ra.below hu).cell (j := 0) rfl, (ra.below hu).cell (j := 1) rfl, (ra.below hu).cell (j := 2) rfl, (ra.below hu).cell (j := 3) rfl, (ra.below hu).cell (j := 4) rfl⟩)
  have d0 := rr.cell (j := 0) rfl; have d1 := rr.cell (j := 1) rfl; have d2 := rr.cell (j := 2) rfl; have d3 := rr.cell (j := 3) rfl; have d4 := rr.cell (j := 4) rfl
  have f0 := rr.frozen 0; have f1 := rr.frozen 1; have f2 := rr.frozen 2; have f3 := rr.frozen 3; have f4 := rr.frozen 4
  have hne0 : ¬ (w.heap.size = w.heap.size + 1) := by omega
  clear hL ra
  go_region_held3 (fun u => u.cell? ⟨w.heap.size, 0, none⟩ = some (.int .i64 o.1) ∧ u.cell? ⟨w.heap.size, 1, none⟩ = some (.slice an o.2.1.length cn) ∧ u.cell? ⟨w.heap.size, 2, none⟩ = some (.slice aa o.2.2.1.length ca) ∧ u.cell? ⟨w.heap.size, 3, none⟩ = some (.slice ab o.2.2.2.1.length cb) ∧ u.cell? ⟨w.heap.size, 4, none⟩ = some (.int .i64 o.2.2.2.2))
    (first | exact SK.out _ (by assumption) | go_keep)
    (first | (go_at_call 119; refine (HW.out _ _ _ _).mono ?_; rintro e w2 ⟨rfl, rfl⟩))
  have hr5 := ((((rr.set 0 (.int .i64 (wI o.1 1 8))).set 1 (.int .i64 (wI o.2.1.length 1 16))).set 2 (.int .i64 (wI o.2.2.1.length 0 (mA o.1)))).set 3 (.int .i64 (wI o.2.2.2.1.length 0 (mB o.1)))).set 4 (.int .i64 (wI o.2.2.2.2 (lN o.1) (mN o.1)))
  have hg5 := grown_trans (grown_trans (grown_trans (grown_trans (grown_set w0 (w.heap.size + 1) 0 (.int .i64 (wI o.1 1 8))) (grown_set _ (w.heap.size + 1) 1 (.int .i64 (wI o.2.1.length 1 16))) (.inl rfl)) (grown_set _ (w.heap.size + 1) 2 (.int .i64 (wI o.2.2.1.length 0 (mA o.1)))) (.inl rfl)) (grown_set _ (w.heap.size + 1) 3 (.int .i64 (wI o.2.2.2.1.length 0 (mB o.1)))) (.inl rfl)) (grown_set _ (w.heap.size + 1) 4 (.int .i64 (wI o.2.2.2.2 (lN o.1) (mN o.1)))) (.inl rfl)
  go_wp2_with fail
  refine bodyPost_ret (v := .agg ((errsO o).map (Value.int .i64)).toArray) (results_cell_row rfl _ _ (w.heap.size + 1) _ _ (0, 0) _ (by rfl) hr5 Tryz.underlying141 rfl (by kernel_rfl)) rfl ?_
  exact ⟨rfl, (B0.trans (grown_below hg5 B0.size (fun k hk => by cases hk; omega))).drew⟩

set_option maxRecDepth 100000 in
theorem eqE (b0 b1 b2 b3 b4 : Bool) (u : World) : (binOp .eql 141 (.agg #[.int .i64 (if b0 = true then 71 else 0), .int .i64 (if b1 = true then 71 else 0), .int .i64 (if b2 = true then 71 else 0), .int .i64 (if b3 = true then 71 else 0), .int .i64 (if b4 = true then 71 else 0)]) (.agg #[.int .i64 0, .int .i64 0, .int .i64 0, .int .i64 0, .int .i64 0])).run Tryz.prog u = .ok (.bool (!(b0 || b1 || b2 || b3 || b4))) u := by
  cases b0 <;> cases b1 <;> cases b2 <;> cases b3 <;> cases b4 <;> kernel_rfl
theorem eq_errs (o : POp) (u : World) : (binOp .eql 141 (.agg ((errsO o).map (Value.int .i64)).toArray) (.agg #[.int .i64 0, .int .i64 0, .int .i64 0, .int .i64 0, .int .i64 0])).run Tryz.prog u = .ok (.bool (decide (wok o))) u := by
  have h := eqE (wB o.1 1 8) (wB o.2.1.length 1 16) (wB o.2.2.1.length 0 (mA o.1)) (wB o.2.2.2.1.length 0 (mB o.1)) (wB o.2.2.2.2 (lN o.1) (mN o.1)) u
  have e : (!(wB o.1 1 8 || wB o.2.1.length 1 16 || wB o.2.2.1.length 0 (mA o.1) || wB o.2.2.2.1.length 0 (mB o.1) || wB o.2.2.2.2 (lN o.1) (mN o.1))) = decide (wok o) := by
    rw [Bool.eq_iff_iff, decide_eq_true_eq, ← errs_wok]
    unfold errsO wI
    cases wB o.1 1 8 <;> cases wB o.2.1.length 1 16 <;> cases wB o.2.2.1.length 0 (mA o.1) <;> cases wB o.2.2.2.1.length 0 (mB o.1) <;> cases wB o.2.2.2.2 (lN o.1) (mN o.1) <;> decide
  rw [e] at h
  exact h
set_option maxRecDepth 10000 in
/-- kv.writable. -/
theorem writable_any (w : World) (r : List Value) (o : POp) (h : ROp Any w r o) :
    Calls Tryz.prog 90 #[.agg r.toArray] w fun e w' => e = .returned (.bool (decide (wok o))) ∧ Below w.heap.size w w' := by
  have hall := h
  obtain ⟨vn, va, vb, rfl, hn, ha, hb⟩ := h
  obtain ⟨w0, hw0⟩ : ∃ w0, w0 = w.alloc (.cells #[.int .i64 o.1, vn, va, vb, .int .i64 o.2.2.2.2] 127) := ⟨_, rfl⟩
  have ra : Row w0 w.heap.size 127 [.int .i64 o.1, vn, va, vb, .int .i64 o.2.2.2.2] := by rw [hw0]; exact Row.new w 127 _
  have B0 : Below w.heap.size w w0 := by rw [hw0]; exact below_alloc _ _
  have hC := check_any w0 _ o (mov_op _ _ _ _ _ _ hall B0.size (Mv.below B0))
  have hE := eq_errs o
  generalize ((errsO o).map (Value.int .i64)).toArray = es at hC hE
  generalize decide (wok o) = d at hE ⊢
  go_enter Tryz.func90, Tryz.ntmps90
  go_upto_region 1 with fail
  rw [← hw0]
  clear hw0
  go_wp2_with (first
    | (refine wl_load rfl _ _ rfl w.heap.size rfl _ _ ra _ Tryz.underlying127 rfl (by kernel_rfl) ?_)
    | (go_at_call 105; refine hC.mono ?_; rintro e w2 ⟨rfl, hb2⟩))
  go_ret
  exact ⟨rfl, below_and B0 (Nat.le_refl _) hb2⟩
end Go.Proofs.YteafgdidjdfiiaaGreat
