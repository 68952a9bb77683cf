/- The document's reading: how many. -/
import Derived.Test.YtgjepofinpmcpaaGreatDoorCAX
import Derived.Test.YtgjepofinpmcpaaGreatDoorCAU
section
set_option linter.unusedVariables false
set_option linter.unusedSimpArgs false
namespace Go.Proofs.YtgjepofinpmcpaaGreatDoor
open Go.RowKit Oct

theorem results_ct {P : Program} {fn : Func} {p t : Tmp} {ty : TypeId} (h : fn.results = #[.cell p ty, .tmp t]) (tmps : Array Value) (w : World) (g : Nat) (tt : TypeId) (cs : Array Value) (fr : Nat × Nat) (d : TypeDesc)
    (hp : tmps.getD p undef = .pointer (some ⟨g, 0, none⟩)) (hg : w.heap[g]? = some (.cells cs tt fr))
    (hu : P.underlying ty = some d) (hd : (match d with | .struct _ | .array _ _ => true | _ => false) = true) (hi : (P.info? ty).map (·.size) = some cs.size) :
    (results fn tmps).run P w = .ok (.tuple #[.agg cs, tmps.getD t undef]) w := by
  have hp' : tmps[p]?.getD undef = .pointer (some ⟨g, 0, none⟩) := by simpa using hp
  simp [results, h, hp', asAddr, run_loadVar_row w g tt ty cs fr d hg hu hd hi]

/-- What is left to be read. -/
def stL (l : List Int) (p : Nat) (bad : Bool) : Option (List Int) := if bad then none else some (l.drop p)
/-- What a reading of the document's ends in. -/
def GPost {α : Type} (c : Cdc α) (R : (Nat → Prop) → World → Value → α → Prop) (w : World) (bv : Value) (l : List Int) (p : Nat) (bad : Bool) (e : Ending) (w' : World) : Prop :=
  ∃ (a : α) (v : Value) (q : Nat) (bad' : Bool), e = .returned (.tuple #[.agg #[bv, .int .i64 (q : Int), .bool bad'], v]) ∧ q ≤ l.length ∧ Below w.heap.size w w' ∧ R (From w.heap.size) w' v a ∧ (stL l p bad).bind c.rd = (stL l q bad').map fun r => (a, r)
theorem one_in {bv : Value} (hb : bv.oneCell' = true) {i : Int} {b : Bool} : ∀ v ∈ [bv, .int .i64 i, .bool b], v.oneCell' = true := by
  intro x hx
  simp only [List.mem_cons, List.not_mem_nil, or_false] at hx
  rcases hx with rfl | rfl | rfl <;> first | rfl | assumption
theorem rd_one {w : World} {v : Value} {l : List Int} (h : Rd w v l) : v.oneCell' = true := by
  obtain ⟨ao, cap, rfl, _⟩ := h.2.form; rfl
theorem below_grown {B : Nat} {w u v : World} {b : Nat} (h : Below B w u) (hg : u.grownBy v (some b)) (hb : B ≤ b) (hB : B ≤ u.heap.size) : Below B w v :=
  h.trans (grown_below hg hB fun k hk => by cases hk; exact hb)

set_option maxRecDepth 10000 in
set_option maxHeartbeats 2000000 in
theorem getNum_any (w : World) (bv : Value) (l : List Int) (p : Nat) (bad : Bool) (hrd : Rd w bv l) (hp : p ≤ l.length) (hl : l.length ≤ 1048576) :
    Calls Tryz.prog 46 #[.agg #[bv, .int .i64 (p : Int), .bool bad]] w (GPost cN VN w bv l p bad) := by
  obtain ⟨ab, cb, rfl, hcb⟩ := hrd.2.form
  obtain ⟨w2, hw2⟩ : ∃ w2, w2 = (w.alloc (.cells #[.slice ab (bc l).length cb, .int .i64 (p : Int), .bool bad] 89)).alloc (.cells #[.slice none 0 0, .int .i64 0, .bool false] 89) := ⟨_, rfl⟩
  have ra : Row w2 w.heap.size 89 [.slice ab (bc l).length cb, .int .i64 (p : Int), .bool bad] := by rw [hw2]; exact row_alloc (Row.new w _ _) _
  have rr : Row w2 (w.heap.size + 1) 89 [.slice none 0 0, .int .i64 0, .bool false] := by
    rw [hw2]
    have := Row.new (w.alloc (.cells #[.slice ab (bc l).length cb, .int .i64 (p : Int), .bool bad] 89)) 89 [.slice none 0 0, .int .i64 0, .bool false]
    simpa using this
  have hB : Below w.heap.size w w2 := by rw [hw2]; exact ((Below.refl _ w).alloc (Nat.le_refl _) _).alloc (by simp) _
  have hG := refGetInt_any w2 _ l p (hrd.below hB) (by omega)
  have SK := (show Hid (∀ u, Below w2.heap.size w2 u → u.cell? ⟨w.heap.size, 0, none⟩ = some (.slice ab (bc l).length cb) ∧ u.cell? ⟨w.heap.size, 1, none⟩ = some (.int .i64 (p : Int)) ∧ u.cell? ⟨w.heap.size, 2, none⟩ = some (.bool bad)) from fun u hu => ⟨(ra.below hu).cell (j := 0) rfl, (ra.below hu).cell (j := 1) rfl, (ra.below hu).cell (j := 2) rfl⟩)
  obtain ⟨c0, c1, c2⟩ := SK.out w2 (Below.refl _ _)
  have FIN := (show Hid (∀ (a : Int) (q : Nat) (bad' : Bool) (u z : World), q ≤ l.length → Below w2.heap.size w2 u → u.grownBy z (some (w.heap.size + 1)) → (stL l p bad).bind cN.rd = (stL l q bad').map (fun r => (a, r)) → GPost cN VN w (.slice ab (bc l).length cb) l p bad (.returned (.tuple #[.agg #[.slice ab (bc l).length cb, .int .i64 (q : Int), .bool bad'], .int .i64 a])) z) from fun a q bad' u z hq hu hz he =>
    ⟨a, _, q, bad', rfl, hq, below_grown (below_and hB (Nat.le_refl _) hu) hz (by omega) (by have := hB.size; have := hu.size; omega), rfl, he⟩)
  obtain ⟨g, hg⟩ : ∃ g, g = getI l p := ⟨_, rfl⟩
  rw [← hg] at hG
  have HG := (show Hid ((g.2.2 = 0 ∨ g.2.2 = 11) ∧ (g.2.2 = 0 → ∃ q : Nat, g.2.1 = (q : Int) ∧ q ≤ l.length ∧ cN.rd (l.drop p) = some (g.1, l.drop q)) ∧ (g.2.2 ≠ 0 → cN.rd (l.drop p) = none)) by
    show _ ∧ _ ∧ _
    rw [hg]
    rcases num_drop hrd.1 hp with ⟨hn, h⟩ | ⟨n, k, hn, h, hk⟩
    · rw [h]; exact ⟨.inr rfl, fun h => by simp at h, fun _ => hn⟩
    · rw [h]; exact ⟨.inl rfl, fun _ => ⟨p + k, rfl, hk, hn⟩, fun h => absurd rfl h⟩)
  clear hg
  go_enter Tryz.func46, Tryz.ntmps46
  go_upto_region 1 with fail
  rw [← hw2]
  clear hw2
  go_upto_region 2 with (go_at_call 80; refine hG.mono ?_; rintro e w3 ⟨rfl, hb3⟩)
  obtain ⟨k0, k1, k2⟩ := SK.out w3 hb3
  have r3 := rr.below hb3
  clear c0 c1 c2 hG ra rr
  cases bad with
  | true =>
    go_wp2_with (refine wl_store rfl _ _ _ rfl (w.heap.size + 1) [.slice ab (bc l).length cb, .int .i64 (p : Int), .bool true] rfl rfl _ _ r3 rfl (by kernel_rfl) (one_in rfl) ?_; intro w5 hr5 hg5)
    refine bodyPost_ret (results_ct rfl _ _ (w.heap.size + 1) _ _ (0, 0) _ (by rfl) hr5.out Tryz.underlying89 rfl (by kernel_rfl)) rfl ?_
    exact FIN.out 0 p true w3 w5 hp hb3 hg5 rfl
  | false =>
    by_cases he : g.2.2 = 0
    · obtain ⟨q, hq, hq2, hq3⟩ := HG.out.2.1 he
      have HQ := (show Hid (cN.rd (l.drop p) = some (g.1, l.drop q)) from hq3)
      have hd : (g.2.2 != 0) = false := by simp [he]
      rw [hq]
      clear hq3 he HG hq
      go_wp2_with (refine wl_store rfl _ _ _ rfl (w.heap.size + 1) [.slice ab (bc l).length cb, .int .i64 (q : Int), .bool false] rfl rfl _ _ r3 rfl (by kernel_rfl) (one_in rfl) ?_; intro w5 hr5 hg5)
      refine bodyPost_ret (results_ct rfl _ _ (w.heap.size + 1) _ _ (0, 0) _ (by rfl) hr5.out Tryz.underlying89 rfl (by kernel_rfl)) rfl ?_
      exact FIN.out g.1 q false w3 w5 hq2 hb3 hg5 HQ.out
    · have HQ := (show Hid (cN.rd (l.drop p) = none) from HG.out.2.2 he)
      have hd : (g.2.2 != 0) = true := by simp [he]
      clear he HG
      go_wp2_with (refine wl_store rfl _ _ _ rfl (w.heap.size + 1) [.slice ab (bc l).length cb, .int .i64 (p : Int), .bool true] rfl rfl _ _ r3 rfl (by kernel_rfl) (one_in rfl) ?_; intro w5 hr5 hg5)
      refine bodyPost_ret (results_ct rfl _ _ (w.heap.size + 1) _ _ (0, 0) _ (by rfl) hr5.out Tryz.underlying89 rfl (by kernel_rfl)) rfl ?_
      exact FIN.out 0 p true w3 w5 hp hb3 hg5 HQ.out
set_option maxRecDepth 10000 in
set_option maxHeartbeats 2000000 in
theorem getText_any (w : World) (bv : Value) (l : List Int) (p : Nat) (bad : Bool) (hrd : Rd w bv l) (hp : p ≤ l.length) (hl : l.length ≤ 1048576) :
    Calls Tryz.prog 82 #[.agg #[bv, .int .i64 (p : Int), .bool bad]] w (GPost cT RT w bv l p bad) := by
  obtain ⟨ab, cb, rfl, hcb⟩ := hrd.2.form
  obtain ⟨w2, hw2⟩ : ∃ w2, w2 = (w.alloc (.cells #[.slice ab (bc l).length cb, .int .i64 (p : Int), .bool bad] 89)).alloc (.cells #[.slice none 0 0, .int .i64 0, .bool false] 89) := ⟨_, rfl⟩
  have ra : Row w2 w.heap.size 89 [.slice ab (bc l).length cb, .int .i64 (p : Int), .bool bad] := by rw [hw2]; exact row_alloc (Row.new w _ _) _
  have rr : Row w2 (w.heap.size + 1) 89 [.slice none 0 0, .int .i64 0, .bool false] := by
    rw [hw2]
    have := Row.new (w.alloc (.cells #[.slice ab (bc l).length cb, .int .i64 (p : Int), .bool bad] 89)) 89 [.slice none 0 0, .int .i64 0, .bool false]
    simpa using this
  have hB : Below w.heap.size w w2 := by rw [hw2]; exact ((Below.refl _ w).alloc (Nat.le_refl _) _).alloc (by simp) _
  have hG := refGetBytes_any w2 _ l p 65536 (hrd.below hB) (by omega)
  have SK := (show Hid (∀ u, Below w2.heap.size w2 u → u.cell? ⟨w.heap.size, 0, none⟩ = some (.slice ab (bc l).length cb) ∧ u.cell? ⟨w.heap.size, 1, none⟩ = some (.int .i64 (p : Int)) ∧ u.cell? ⟨w.heap.size, 2, none⟩ = some (.bool bad)) from fun u hu => ⟨(ra.below hu).cell (j := 0) rfl, (ra.below hu).cell (j := 1) rfl, (ra.below hu).cell (j := 2) rfl⟩)
  obtain ⟨c0, c1, c2⟩ := SK.out w2 (Below.refl _ _)
  have FIN := (show Hid (∀ (a : List Int) (v : Value) (q : Nat) (bad' : Bool) (u z : World), q ≤ l.length → Below w2.heap.size w2 u → u.grownBy z (some (w.heap.size + 1)) → RT (From w.heap.size) z v a → (stL l p bad).bind cT.rd = (stL l q bad').map (fun r => (a, r)) → GPost cT RT w (.slice ab (bc l).length cb) l p bad (.returned (.tuple #[.agg #[.slice ab (bc l).length cb, .int .i64 (q : Int), .bool bad'], v])) z) from fun a v q bad' u z hq hu hz hv he =>
    ⟨a, _, q, bad', rfl, hq, below_grown (below_and hB (Nat.le_refl _) hu) hz (by omega) (by have := hB.size; have := hu.size; omega), hv, he⟩)
  obtain ⟨g, hg⟩ : ∃ g, g = getB l p 65536 := ⟨_, rfl⟩
  rw [← hg] at hG
  have HG := (show Hid ((g.2.2 = 0 ∨ g.2.2 = 11) ∧ (g.2.2 = 0 → ∃ q : Nat, g.2.1 = (q : Int) ∧ q ≤ l.length ∧ cT.rd (l.drop p) = some (g.1, l.drop q)) ∧ (g.2.2 ≠ 0 → cT.rd (l.drop p) = none)) by
    show _ ∧ _ ∧ _
    rw [hg]
    rcases txt_drop hrd.1 hp with ⟨hn, h⟩ | ⟨t, q, hn, h, hk⟩
    · rw [h]; exact ⟨.inr rfl, fun h => by simp at h, fun _ => hn⟩
    · rw [h]; exact ⟨.inl rfl, fun _ => ⟨q, rfl, hk, hn⟩, fun h => absurd rfl h⟩)
  have hbt : Byt g.1 := by rw [hg]; exact getB_byt l p 65536 hrd.1
  clear hg
  go_enter Tryz.func82, Tryz.ntmps82
  go_upto_region 1 with fail
  rw [← hw2]
  clear hw2
  go_upto_region 2 with (go_at_call 120; refine hG.mono ?_; rintro e w3 ⟨v3, rfl, hown3, hfr3, hb3⟩)
  obtain ⟨k0, k1, k2⟩ := SK.out w3 hb3
  have r3 := rr.below hb3
  have hne3 := own_row_ne r3 hown3 (by decide)
  have hfr3' : Fr w.heap.size v3 := fun k hk => Nat.le_trans hB.size (hfr3 k hk)
  clear c0 c1 c2 hG ra rr
  cases bad with
  | true =>
    go_wp2_with (refine wl_store rfl _ _ _ rfl (w.heap.size + 1) [.slice ab (bc l).length cb, .int .i64 (p : Int), .bool true] rfl rfl _ _ r3 rfl (by kernel_rfl) (one_in rfl) ?_; intro w5 hr5 hg5)
    refine bodyPost_ret (results_ct rfl _ _ (w.heap.size + 1) _ _ (0, 0) _ (by rfl) hr5.out Tryz.underlying89 rfl (by kernel_rfl)) rfl ?_
    exact FIN.out [] _ p true w3 w5 hp hb3 hg5 (RT.nil _ _) rfl
  | false =>
    by_cases he : g.2.2 = 0
    · obtain ⟨q, hq, hq2, hq3⟩ := HG.out.2.1 he
      have HQ := (show Hid (cT.rd (l.drop p) = some (g.1, l.drop q)) from hq3)
      have hd : (g.2.2 != 0) = false := by simp [he]
      rw [hq]
      clear hq3 he HG hq
      go_wp2_with (refine wl_store rfl _ _ _ rfl (w.heap.size + 1) [.slice ab (bc l).length cb, .int .i64 (q : Int), .bool false] rfl rfl _ _ r3 rfl (by kernel_rfl) (one_in rfl) ?_; intro w5 hr5 hg5)
      refine bodyPost_ret (results_ct rfl _ _ (w.heap.size + 1) _ _ (0, 0) _ (by rfl) hr5.out Tryz.underlying89 rfl (by kernel_rfl)) rfl ?_
      exact FIN.out g.1 _ q false w3 w5 hq2 hb3 hg5 (RT.own (hown3.grown hg5 (fun k hk => by cases hk; exact hne3)) hbt hfr3') HQ.out
    · have HQ := (show Hid (cT.rd (l.drop p) = none) from HG.out.2.2 he)
      have hd : (g.2.2 != 0) = true := by simp [he]
      clear he HG
      go_wp2_with (refine wl_store rfl _ _ _ rfl (w.heap.size + 1) [.slice ab (bc l).length cb, .int .i64 (p : Int), .bool true] rfl rfl _ _ r3 rfl (by kernel_rfl) (one_in rfl) ?_; intro w5 hr5 hg5)
      refine bodyPost_ret (results_ct rfl _ _ (w.heap.size + 1) _ _ (0, 0) _ (by rfl) hr5.out Tryz.underlying89 rfl (by kernel_rfl)) rfl ?_
      exact FIN.out [] _ p true w3 w5 hp hb3 hg5 (RT.nil _ _) HQ.out
end Go.Proofs.YtgjepofinpmcpaaGreatDoor
end

section
set_option linter.unusedVariables false
set_option linter.unusedSimpArgs false
namespace Go.Proofs.YtgjepofinpmcpaaGreatDoor
open Go.RowKit Oct

/-- How many, at most 64. -/
def cM : Cdc Int := ⟨fun _ => true, fun _ => [], fun l => (cN.rd l).bind fun x => if 64 < x.1 then none else some x⟩
theorem cM_small {l : List Int} {p q : Nat} {bad bad' : Bool} {a : Int} (h : (stL l p bad).bind cN.rd = (stL l q bad').map fun r => (a, r)) (ha : ¬ 64 < a) : (stL l p bad).bind cM.rd = (stL l q bad').map fun r => (a, r) := by
  show (stL l p bad).bind (fun l => (cN.rd l).bind fun x => if 64 < x.1 then none else some x) = _
  rw [← Option.bind_assoc, h]
  cases stL l q bad' with
  | none => rfl
  | some r => simp [ha]
theorem cM_great {l : List Int} {p q : Nat} {bad bad' : Bool} {a : Int} (h : (stL l p bad).bind cN.rd = (stL l q bad').map fun r => (a, r)) (ha : 64 < a) : (stL l p bad).bind cM.rd = none := by
  show (stL l p bad).bind (fun l => (cN.rd l).bind fun x => if 64 < x.1 then none else some x) = _
  rw [← Option.bind_assoc, h]
  cases stL l q bad' with
  | none => rfl
  | some r => simp [ha]

set_option maxRecDepth 10000 in
set_option maxHeartbeats 2000000 in
theorem getMany_any (w : World) (bv : Value) (l : List Int) (p : Nat) (bad : Bool) (hrd : Rd w bv l) (hp : p ≤ l.length) (hl : l.length ≤ 1048576) :
    Calls Tryz.prog 121 #[.agg #[bv, .int .i64 (p : Int), .bool bad]] w (GPost cM VN w bv l p bad) := by
  obtain ⟨ab, cb, rfl, hcb⟩ := hrd.2.form
  obtain ⟨w2, hw2⟩ : ∃ w2, w2 = (w.alloc (.cells #[.slice ab (bc l).length cb, .int .i64 (p : Int), .bool bad] 89)).alloc (.cells #[.slice none 0 0, .int .i64 0, .bool false] 89) := ⟨_, rfl⟩
  have ra : Row w2 w.heap.size 89 [.slice ab (bc l).length cb, .int .i64 (p : Int), .bool bad] := by rw [hw2]; exact row_alloc (Row.new w _ _) _
  have rr : Row w2 (w.heap.size + 1) 89 [.slice none 0 0, .int .i64 0, .bool false] := by
    rw [hw2]
    have := Row.new (w.alloc (.cells #[.slice ab (bc l).length cb, .int .i64 (p : Int), .bool bad] 89)) 89 [.slice none 0 0, .int .i64 0, .bool false]
    simpa using this
  have hB : Below w.heap.size w w2 := by rw [hw2]; exact ((Below.refl _ w).alloc (Nat.le_refl _) _).alloc (by simp) _
  have hG := getNum_any w2 _ l p bad (hrd.below hB) hp hl
  go_enter Tryz.func121, Tryz.ntmps121
  go_upto_region 1 with fail
  rw [← hw2]
  clear hw2
  go_upto_region 2 with (first
    | (refine wl_load rfl _ _ rfl w.heap.size rfl _ _ ra _ Tryz.underlying89 rfl (by kernel_rfl) ?_)
    | (go_at_call 46; refine hG.mono ?_; rintro e w3 ⟨a, v3, q, bad', rfl, hq, hb3, rfl, he⟩; have ra3 := ra.below hb3; have rr3 := rr.below hb3)
    | (refine wl_store rfl _ _ _ rfl w.heap.size [.slice ab (bc l).length cb, .int .i64 (q : Int), .bool bad'] rfl rfl _ _ ra3 rfl (by kernel_rfl) (one_in rfl) ?_; intro w4 hr4 hg4))
  have rr4 := rr3.grown hg4 (fun h => by injection h; omega)
  have B3 := below_and hB (Nat.le_refl _) hb3
  have hs3 : w.heap.size ≤ w3.heap.size := B3.size
  have B4 := below_grown B3 hg4 (Nat.le_refl _) hs3
  have hs4 : w.heap.size ≤ w4.heap.size := B4.size
  have HE := (show Hid ((stL l p bad).bind cN.rd = (stL l q bad').map fun r => (a, r)) from he)
  have c0 := hr4.out.cell (j := 0) rfl
  have c1 := hr4.out.cell (j := 1) rfl
  clear ra rr hG ra3 rr3 he hg4 hb3 B3
  by_cases ha : 64 < a
  · go_wp2_with (refine wl_store rfl _ _ _ rfl (w.heap.size + 1) [.slice ab (bc l).length cb, .int .i64 (q : Int), .bool true] rfl rfl _ _ rr4 rfl (by kernel_rfl) (one_in rfl) ?_; intro w5 hr5 hg5)
    refine bodyPost_ret (results_ct rfl _ _ (w.heap.size + 1) _ _ (0, 0) _ (by rfl) hr5.out Tryz.underlying89 rfl (by kernel_rfl)) rfl ?_
    exact ⟨0, _, q, true, rfl, hq, below_grown B4 hg5 (by omega) hs4, rfl, cM_great HE.out ha⟩
  · go_wp2_with (first
      | (refine wl_load rfl _ _ rfl w.heap.size rfl _ _ hr4.out _ Tryz.underlying89 rfl (by kernel_rfl) ?_)
      | (refine wl_store rfl _ _ _ rfl (w.heap.size + 1) [.slice ab (bc l).length cb, .int .i64 (q : Int), .bool bad'] rfl rfl _ _ rr4 rfl (by kernel_rfl) (one_in rfl) ?_; intro w5 hr5 hg5))
    refine bodyPost_ret (results_ct rfl _ _ (w.heap.size + 1) _ _ (0, 0) _ (by rfl) hr5.out Tryz.underlying89 rfl (by kernel_rfl)) rfl ?_
    exact ⟨a, _, q, bad', rfl, hq, below_grown B4 hg5 (by omega) hs4, rfl, cM_small HE.out (by omega)⟩
end Go.Proofs.YtgjepofinpmcpaaGreatDoor
end
