/- A region that draws: two rows are loaded and stored into two others. -/
import Derived.Test.YtgjepofinpmcpaaGreatDoorMAP
import Derived.Test.YtgjepofinpmcpaaGreatDoorMAN
import Derived.Test.YtgjepofinpmcpaaGreatDoorMAO
set_option linter.unusedSimpArgs false
set_option linter.unusedVariables false
namespace Go.Proofs.YtgjepofinpmcpaaGreatDoor
section
open Go.RowKit Oct
theorem zB2 {P : Program} {fn : Func} {p t : Tmp} {ty : TypeId} (h : fn.results = #[.cell p ty, .tmp t]) (tmps : Array Value) (w : World) (g : Nat) (tt : TypeId) (cs : Array Value) (fr : Nat × Nat) (d : TypeDesc)
    (hp : tmps.getD p undef = .pointer (some ⟨g, 0, none⟩)) (hg : w.heap[g]? = some (.cells cs tt fr))
    (hu : P.underlying ty = some d) (hd : (match d with | .struct _ | .array _ _ => true | _ => false) = true) (hi : (P.info? ty).map (·.size) = some cs.size) :
    (results fn tmps).run P w = .ok (.tuple #[.agg cs, tmps.getD t undef]) w := by
  have hp' : tmps[p]?.getD undef = .pointer (some ⟨g, 0, none⟩) := by simpa using hp
  simp [results, h, hp', asAddr, run_loadVar_row w g tt ty cs fr d hg hu hd hi]
def stL (l : List Int) (p : Nat) (bad : Bool) : Option (List Int) := if bad then none else some (l.drop p)
def zH4 {α : Type} (c : Cdc α) (R : (Nat → Prop) → World → Value → α → Prop) (w : World) (bv : Value) (l : List Int) (p : Nat) (bad : Bool) (e : Ending) (w' : World) : Prop :=
  ∃ (a : α) (v : Value) (q : Nat) (bad' : Bool), e = .returned (.tuple #[.agg #[bv, .int .i64 (q : Int), .bool bad'], v]) ∧ q ≤ l.length ∧ Below w.heap.size w w' ∧ R (zB0 w.heap.size) w' v a ∧ (stL l p bad).bind c.rd = (stL l q bad').map fun r => (a, r)
theorem zAf {bv : Value} (hb : bv.oneCell' = true) {i : Int} {b : Bool} : ∀ v ∈ [bv, .int .i64 i, .bool b], v.oneCell' = true := by
  intro x hx
  simp only [List.mem_cons, List.not_mem_nil, or_false] at hx
  rcases hx with rfl | rfl | rfl <;> first | rfl | assumption
theorem zA3 {B : Nat} {w u v : World} {b : Nat} (h : Below B w u) (hg : u.grownBy v (some b)) (hb : B ≤ b) (hB : B ≤ u.heap.size) : Below B w v :=
  h.trans (zA5 hg hB fun k hk => by cases hk; exact hb)
set_option maxRecDepth 10000 in
set_option maxHeartbeats 2000000 in
theorem zAr (w : World) (bv : Value) (l : List Int) (p : Nat) (bad : Bool) (hrd : Rd w bv l) (hp : p ≤ l.length) (hl : l.length ≤ 1048576) :
    Calls Tryz.prog 46 #[.agg #[bv, .int .i64 (p : Int), .bool bad]] w (zH4 cN VN w bv l p bad) := by
  obtain ⟨ab, cb, rfl, hcb⟩ := hrd.2.form
  obtain ⟨w2, hw2⟩ : ∃ w2, w2 = (w.alloc (.cells #[.slice ab (bc l).length cb, .int .i64 (p : Int), .bool bad] 89)).alloc (.cells #[.slice none 0 0, .int .i64 0, .bool false] 89) := ⟨_, rfl⟩
  have ra : Row w2 w.heap.size 89 [.slice ab (bc l).length cb, .int .i64 (p : Int), .bool bad] := by rw [hw2]; exact zA4 (Row.new w _ _) _
  have rr : Row w2 (w.heap.size + 1) 89 [.slice none 0 0, .int .i64 0, .bool false] := by
    rw [hw2]
    have := Row.new (w.alloc (.cells #[.slice ab (bc l).length cb, .int .i64 (p : Int), .bool bad] 89)) 89 [.slice none 0 0, .int .i64 0, .bool false]
    simpa using this
  have hB : Below w.heap.size w w2 := by rw [hw2]; exact ((Below.refl _ w).alloc zN _).alloc (by simp) _
  have hG := zG5 w2 _ l p (hrd.below hB) (by omega)
  have SK := (show Hid (∀ u, Below w2.heap.size w2 u → u.cell? ⟨w.heap.size, 0, none⟩ = some (.slice ab (bc l).length cb) ∧ u.cell? ⟨w.heap.size, 1, none⟩ = some (.int .i64 (p : Int)) ∧ u.cell? ⟨w.heap.size, 2, none⟩ = some (.bool bad)) from fun u hu => ⟨(ra.below hu).cell (j := 0) rfl, (ra.below hu).cell (j := 1) rfl, (ra.below hu).cell (j := 2) rfl⟩)
  obtain ⟨c0, c1, c2⟩ := SK.out w2 (Below.refl _ _)
  have FIN := (show Hid (∀ (a : Int) (q : Nat) (bad' : Bool) (u z : World), q ≤ l.length → Below w2.heap.size w2 u → u.grownBy z (some (w.heap.size + 1)) → (stL l p bad).bind cN.rd = (stL l q bad').map (fun r => (a, r)) → zH4 cN VN w (.slice ab (bc l).length cb) l p bad (.returned (.tuple #[.agg #[.slice ab (bc l).length cb, .int .i64 (q : Int), .bool bad'], .int .i64 a])) z) from fun a q bad' u z hq hu hz he =>
    ⟨a, _, q, bad', rfl, hq, zA3 (zA1 hB zN hu) hz (by omega) (by have := hB.size; have := hu.size; omega), rfl, he⟩)
  obtain ⟨g, hg⟩ : ∃ g, g = zE6 l p := ⟨_, rfl⟩
  rw [← hg] at hG
  have HG := (show Hid ((g.2.2 = 0 ∨ g.2.2 = 11) ∧ (g.2.2 = 0 → ∃ q : Nat, g.2.1 = (q : Int) ∧ q ≤ l.length ∧ cN.rd (l.drop p) = some (g.1, l.drop q)) ∧ (g.2.2 ≠ 0 → cN.rd (l.drop p) = none)) by
    show _ ∧ _ ∧ _
    rw [hg]
    rcases zP0 hrd.1 hp with ⟨hn, h⟩ | ⟨n, k, hn, h, hk⟩
    · rw [h]; exact ⟨.inr rfl, fun h => by simp at h, fun _ => hn⟩
    · rw [h]; exact ⟨.inl rfl, fun _ => ⟨p + k, rfl, hk, hn⟩, fun h => absurd rfl h⟩)
  clear hg
  go_enter Tryz.func46, Tryz.ntmps46
  go_upto_region 1 with fail
  rw [← hw2]
  clear hw2
  go_upto_region 2 with (go_at_call 80; refine hG.mono ?_; rintro e w3 ⟨rfl, hb3⟩)
  obtain ⟨k0, k1, k2⟩ := SK.out w3 hb3
  have r3 := rr.below hb3
  clear c0 c1 c2 hG ra rr
  cases bad with
  | true =>
    go_wp2_with (refine zA7 rfl _ _ _ rfl (w.heap.size + 1) [.slice ab (bc l).length cb, .int .i64 (p : Int), .bool true] rfl rfl _ _ r3 rfl (by kernel_rfl) (zAf rfl) ?_; intro w5 hr5 hg5)
    refine bodyPost_ret (zB2 rfl _ _ (w.heap.size + 1) _ _ (0, 0) _ (by rfl) hr5.out Tryz.underlying89 rfl (by kernel_rfl)) rfl ?_
    exact FIN.out 0 p true w3 w5 hp hb3 hg5 rfl
  | false =>
    by_cases he : g.2.2 = 0
    · obtain ⟨q, hq, hq2, hq3⟩ := HG.out.2.1 he
      have HQ := (show Hid (cN.rd (l.drop p) = some (g.1, l.drop q)) from hq3)
      have hd : (g.2.2 != 0) = false := by simp [he]
      rw [hq]
      clear hq3 he HG hq
      go_wp2_with (refine zA7 rfl _ _ _ rfl (w.heap.size + 1) [.slice ab (bc l).length cb, .int .i64 (q : Int), .bool false] rfl rfl _ _ r3 rfl (by kernel_rfl) (zAf rfl) ?_; intro w5 hr5 hg5)
      refine bodyPost_ret (zB2 rfl _ _ (w.heap.size + 1) _ _ (0, 0) _ (by rfl) hr5.out Tryz.underlying89 rfl (by kernel_rfl)) rfl ?_
      exact FIN.out g.1 q false w3 w5 hq2 hb3 hg5 HQ.out
    · have HQ := (show Hid (cN.rd (l.drop p) = none) from HG.out.2.2 he)
      have hd : (g.2.2 != 0) = true := by simp [he]
      clear he HG
      go_wp2_with (refine zA7 rfl _ _ _ rfl (w.heap.size + 1) [.slice ab (bc l).length cb, .int .i64 (p : Int), .bool true] rfl rfl _ _ r3 rfl (by kernel_rfl) (zAf rfl) ?_; intro w5 hr5 hg5)
      refine bodyPost_ret (zB2 rfl _ _ (w.heap.size + 1) _ _ (0, 0) _ (by rfl) hr5.out Tryz.underlying89 rfl (by kernel_rfl)) rfl ?_
      exact FIN.out 0 p true w3 w5 hp hb3 hg5 HQ.out
set_option maxRecDepth 10000 in
set_option maxHeartbeats 2000000 in
theorem zC2 (w : World) (bv : Value) (l : List Int) (p : Nat) (bad : Bool) (hrd : Rd w bv l) (hp : p ≤ l.length) (hl : l.length ≤ 1048576) :
    Calls Tryz.prog 82 #[.agg #[bv, .int .i64 (p : Int), .bool bad]] w (zH4 cT RT w bv l p bad) := by
  obtain ⟨ab, cb, rfl, hcb⟩ := hrd.2.form
  obtain ⟨w2, hw2⟩ : ∃ w2, w2 = (w.alloc (.cells #[.slice ab (bc l).length cb, .int .i64 (p : Int), .bool bad] 89)).alloc (.cells #[.slice none 0 0, .int .i64 0, .bool false] 89) := ⟨_, rfl⟩
  have ra : Row w2 w.heap.size 89 [.slice ab (bc l).length cb, .int .i64 (p : Int), .bool bad] := by rw [hw2]; exact zA4 (Row.new w _ _) _
  have rr : Row w2 (w.heap.size + 1) 89 [.slice none 0 0, .int .i64 0, .bool false] := by
    rw [hw2]
    have := Row.new (w.alloc (.cells #[.slice ab (bc l).length cb, .int .i64 (p : Int), .bool bad] 89)) 89 [.slice none 0 0, .int .i64 0, .bool false]
    simpa using this
  have hB : Below w.heap.size w w2 := by rw [hw2]; exact ((Below.refl _ w).alloc zN _).alloc (by simp) _
  have hG := zIn w2 _ l p 65536 (hrd.below hB) (by omega)
  have SK := (show Hid (∀ u, Below w2.heap.size w2 u → u.cell? ⟨w.heap.size, 0, none⟩ = some (.slice ab (bc l).length cb) ∧ u.cell? ⟨w.heap.size, 1, none⟩ = some (.int .i64 (p : Int)) ∧ u.cell? ⟨w.heap.size, 2, none⟩ = some (.bool bad)) from fun u hu => ⟨(ra.below hu).cell (j := 0) rfl, (ra.below hu).cell (j := 1) rfl, (ra.below hu).cell (j := 2) rfl⟩)
  obtain ⟨c0, c1, c2⟩ := SK.out w2 (Below.refl _ _)
  have FIN := (show Hid (∀ (a : List Int) (v : Value) (q : Nat) (bad' : Bool) (u z : World), q ≤ l.length → Below w2.heap.size w2 u → u.grownBy z (some (w.heap.size + 1)) → RT (zB0 w.heap.size) z v a → (stL l p bad).bind cT.rd = (stL l q bad').map (fun r => (a, r)) → zH4 cT RT w (.slice ab (bc l).length cb) l p bad (.returned (.tuple #[.agg #[.slice ab (bc l).length cb, .int .i64 (q : Int), .bool bad'], v])) z) from fun a v q bad' u z hq hu hz hv he =>
    ⟨a, _, q, bad', rfl, hq, zA3 (zA1 hB zN hu) hz (by omega) (by have := hB.size; have := hu.size; omega), hv, he⟩)
  obtain ⟨g, hg⟩ : ∃ g, g = zD9 l p 65536 := ⟨_, rfl⟩
  rw [← hg] at hG
  have HG := (show Hid ((g.2.2 = 0 ∨ g.2.2 = 11) ∧ (g.2.2 = 0 → ∃ q : Nat, g.2.1 = (q : Int) ∧ q ≤ l.length ∧ cT.rd (l.drop p) = some (g.1, l.drop q)) ∧ (g.2.2 ≠ 0 → cT.rd (l.drop p) = none)) by
    show _ ∧ _ ∧ _
    rw [hg]
    rcases zPh hrd.1 hp with ⟨hn, h⟩ | ⟨t, q, hn, h, hk⟩
    · rw [h]; exact ⟨.inr rfl, fun h => by simp at h, fun _ => hn⟩
    · rw [h]; exact ⟨.inl rfl, fun _ => ⟨q, rfl, hk, hn⟩, fun h => absurd rfl h⟩)
  have hbt : Byt g.1 := by rw [hg]; exact zK9 l p 65536 hrd.1
  clear hg
  go_enter Tryz.func82, Tryz.ntmps82
  go_upto_region 1 with fail
  rw [← hw2]
  clear hw2
  go_upto_region 2 with (go_at_call 120; refine hG.mono ?_; rintro e w3 ⟨v3, rfl, hown3, hfr3, hb3⟩)
  obtain ⟨k0, k1, k2⟩ := SK.out w3 hb3
  have r3 := rr.below hb3
  have hne3 := zA6 r3 hown3 (by decide)
  have hfr3' : Fr w.heap.size v3 := fun k hk => Nat.le_trans hB.size (hfr3 k hk)
  clear c0 c1 c2 hG ra rr
  cases bad with
  | true =>
    go_wp2_with (refine zA7 rfl _ _ _ rfl (w.heap.size + 1) [.slice ab (bc l).length cb, .int .i64 (p : Int), .bool true] rfl rfl _ _ r3 rfl (by kernel_rfl) (zAf rfl) ?_; intro w5 hr5 hg5)
    refine bodyPost_ret (zB2 rfl _ _ (w.heap.size + 1) _ _ (0, 0) _ (by rfl) hr5.out Tryz.underlying89 rfl (by kernel_rfl)) rfl ?_
    exact FIN.out [] _ p true w3 w5 hp hb3 hg5 (RT.nil _ _) rfl
  | false =>
    by_cases he : g.2.2 = 0
    · obtain ⟨q, hq, hq2, hq3⟩ := HG.out.2.1 he
      have HQ := (show Hid (cT.rd (l.drop p) = some (g.1, l.drop q)) from hq3)
      have hd : (g.2.2 != 0) = false := by simp [he]
      rw [hq]
      clear hq3 he HG hq
      go_wp2_with (refine zA7 rfl _ _ _ rfl (w.heap.size + 1) [.slice ab (bc l).length cb, .int .i64 (q : Int), .bool false] rfl rfl _ _ r3 rfl (by kernel_rfl) (zAf rfl) ?_; intro w5 hr5 hg5)
      refine bodyPost_ret (zB2 rfl _ _ (w.heap.size + 1) _ _ (0, 0) _ (by rfl) hr5.out Tryz.underlying89 rfl (by kernel_rfl)) rfl ?_
      exact FIN.out g.1 _ q false w3 w5 hq2 hb3 hg5 (RT.own (hown3.grown hg5 (fun k hk => by cases hk; exact hne3)) hbt hfr3') HQ.out
    · have HQ := (show Hid (cT.rd (l.drop p) = none) from HG.out.2.2 he)
      have hd : (g.2.2 != 0) = true := by simp [he]
      clear he HG
      go_wp2_with (refine zA7 rfl _ _ _ rfl (w.heap.size + 1) [.slice ab (bc l).length cb, .int .i64 (p : Int), .bool true] rfl rfl _ _ r3 rfl (by kernel_rfl) (zAf rfl) ?_; intro w5 hr5 hg5)
      refine bodyPost_ret (zB2 rfl _ _ (w.heap.size + 1) _ _ (0, 0) _ (by rfl) hr5.out Tryz.underlying89 rfl (by kernel_rfl)) rfl ?_
      exact FIN.out [] _ p true w3 w5 hp hb3 hg5 (RT.nil _ _) HQ.out
end
section
open Go.RowKit Oct
def cM : Cdc Int := ⟨fun _ => true, fun _ => [], fun l => (cN.rd l).bind fun x => if 64 < x.1 then none else some x⟩
theorem cM_small {l : List Int} {p q : Nat} {bad bad' : Bool} {a : Int} (h : (stL l p bad).bind cN.rd = (stL l q bad').map fun r => (a, r)) (ha : ¬ 64 < a) : (stL l p bad).bind cM.rd = (stL l q bad').map fun r => (a, r) := by
  show (stL l p bad).bind (fun l => (cN.rd l).bind fun x => if 64 < x.1 then none else some x) = _
  rw [← Option.bind_assoc, h]
  cases stL l q bad' with
  | none => rfl
  | some r => simp [ha]
theorem cM_great {l : List Int} {p q : Nat} {bad bad' : Bool} {a : Int} (h : (stL l p bad).bind cN.rd = (stL l q bad').map fun r => (a, r)) (ha : 64 < a) : (stL l p bad).bind cM.rd = none := by
  show (stL l p bad).bind (fun l => (cN.rd l).bind fun x => if 64 < x.1 then none else some x) = _
  rw [← Option.bind_assoc, h]
  cases stL l q bad' with
  | none => rfl
  | some r => simp [ha]
set_option maxRecDepth 10000 in
set_option maxHeartbeats 2000000 in
theorem zD4 (w : World) (bv : Value) (l : List Int) (p : Nat) (bad : Bool) (hrd : Rd w bv l) (hp : p ≤ l.length) (hl : l.length ≤ 1048576) :
    Calls Tryz.prog 121 #[.agg #[bv, .int .i64 (p : Int), .bool bad]] w (zH4 cM VN w bv l p bad) := by
  obtain ⟨ab, cb, rfl, hcb⟩ := hrd.2.form
  obtain ⟨w2, hw2⟩ : ∃ w2, w2 = (w.alloc (.cells #[.slice ab (bc l).length cb, .int .i64 (p : Int), .bool bad] 89)).alloc (.cells #[.slice none 0 0, .int .i64 0, .bool false] 89) := ⟨_, rfl⟩
  have ra : Row w2 w.heap.size 89 [.slice ab (bc l).length cb, .int .i64 (p : Int), .bool bad] := by rw [hw2]; exact zA4 (Row.new w _ _) _
  have rr : Row w2 (w.heap.size + 1) 89 [.slice none 0 0, .int .i64 0, .bool false] := by
    rw [hw2]
    have := Row.new (w.alloc (.cells #[.slice ab (bc l).length cb, .int .i64 (p : Int), .bool bad] 89)) 89 [.slice none 0 0, .int .i64 0, .bool false]
    simpa using this
  have hB : Below w.heap.size w w2 := by rw [hw2]; exact ((Below.refl _ w).alloc zN _).alloc (by simp) _
  have hG := zAr w2 _ l p bad (hrd.below hB) hp hl
  go_enter Tryz.func121, Tryz.ntmps121
  go_upto_region 1 with fail
  rw [← hw2]
  clear hw2
  go_upto_region 2 with (first
    | (refine zAa rfl _ _ rfl w.heap.size rfl _ _ ra _ Tryz.underlying89 rfl (by kernel_rfl) ?_)
    | (go_at_call 46; refine hG.mono ?_; rintro e w3 ⟨a, v3, q, bad', rfl, hq, hb3, rfl, he⟩; have ra3 := ra.below hb3; have rr3 := rr.below hb3)
    | (refine zA7 rfl _ _ _ rfl w.heap.size [.slice ab (bc l).length cb, .int .i64 (q : Int), .bool bad'] rfl rfl _ _ ra3 rfl (by kernel_rfl) (zAf rfl) ?_; intro w4 hr4 hg4))
  have rr4 := rr3.grown hg4 (fun h => by injection h; omega)
  have B3 := zA1 hB zN hb3
  have hs3 : w.heap.size ≤ w3.heap.size := B3.size
  have B4 := zA3 B3 hg4 zN hs3
  have hs4 : w.heap.size ≤ w4.heap.size := B4.size
  have HE := (show Hid ((stL l p bad).bind cN.rd = (stL l q bad').map fun r => (a, r)) from he)
  have c0 := hr4.out.cell (j := 0) rfl
  have c1 := hr4.out.cell (j := 1) rfl
  clear ra rr hG ra3 rr3 he hg4 hb3 B3
  by_cases ha : 64 < a
  · go_wp2_with (refine zA7 rfl _ _ _ rfl (w.heap.size + 1) [.slice ab (bc l).length cb, .int .i64 (q : Int), .bool true] rfl rfl _ _ rr4 rfl (by kernel_rfl) (zAf rfl) ?_; intro w5 hr5 hg5)
    refine bodyPost_ret (zB2 rfl _ _ (w.heap.size + 1) _ _ (0, 0) _ (by rfl) hr5.out Tryz.underlying89 rfl (by kernel_rfl)) rfl ?_
    exact ⟨0, _, q, true, rfl, hq, zA3 B4 hg5 (by omega) hs4, rfl, cM_great HE.out ha⟩
  · go_wp2_with (first
      | (refine zAa rfl _ _ rfl w.heap.size rfl _ _ hr4.out _ Tryz.underlying89 rfl (by kernel_rfl) ?_)
      | (refine zA7 rfl _ _ _ rfl (w.heap.size + 1) [.slice ab (bc l).length cb, .int .i64 (q : Int), .bool bad'] rfl rfl _ _ rr4 rfl (by kernel_rfl) (zAf rfl) ?_; intro w5 hr5 hg5))
    refine bodyPost_ret (zB2 rfl _ _ (w.heap.size + 1) _ _ (0, 0) _ (by rfl) hr5.out Tryz.underlying89 rfl (by kernel_rfl)) rfl ?_
    exact ⟨a, _, q, bad', rfl, hq, zA3 B4 hg5 (by omega) hs4, rfl, cM_small HE.out (by omega)⟩
end
section
open Go.RowKit Oct
theorem zAs {α β : Type} {c : Cdc α} {d : Cdc β} {l : List Int} {p q r : Nat} {b0 b1 b2 : Bool} {x : α} {y : β} (h1 : (stL l p b0).bind c.rd = (stL l q b1).map fun r => (x, r)) (h2 : (stL l q b1).bind d.rd = (stL l r b2).map fun r => (y, r)) :
    (stL l p b0).bind (cP c d).rd = (stL l r b2).map fun r => ((x, y), r) := by
  show (stL l p b0).bind (fun l => (c.rd l).bind fun x => (d.rd x.2).map fun y => ((x.1, y.1), y.2)) = _
  rw [← Option.bind_assoc, h1]
  cases hq : stL l q b1 with
  | none =>
    rw [hq] at h2
    cases hr : stL l r b2 with
    | none => rfl
    | some s => rw [hr] at h2; cases h2
  | some s =>
    rw [hq] at h2
    have h2' : d.rd s = (stL l r b2).map fun r => (y, r) := h2
    simp only [Option.map_some, Option.bind_some, h2']
    cases stL l r b2 <;> rfl
theorem grown3 (w : World) (b : Nat) (v0 v1 v2 : Value) : w.grownBy (((w.setCell ⟨b, 0, none⟩ v0).setCell ⟨b, 1, none⟩ v1).setCell ⟨b, 2, none⟩ v2) (some b) :=
  zA2 (zA2 (zAd w b 0 v0) (zAd _ b 1 v1) (.inl rfl)) (zAd _ b 2 v2) (.inl rfl)
theorem grown4 (w : World) (b : Nat) (v0 v1 v2 v3 : Value) : w.grownBy ((((w.setCell ⟨b, 0, none⟩ v0).setCell ⟨b, 1, none⟩ v1).setCell ⟨b, 2, none⟩ v2).setCell ⟨b, 3, none⟩ v3) (some b) :=
  zA2 (grown3 w b v0 v1 v2) (zAd _ b 3 v3) (.inl rfl)
theorem row3 {w : World} {b : Nat} {t : TypeId} {x0 x1 x2 : Value} (h : Row w b t [x0, x1, x2]) (v0 v1 v2 : Value) : Row (((w.setCell ⟨b, 0, none⟩ v0).setCell ⟨b, 1, none⟩ v1).setCell ⟨b, 2, none⟩ v2) b t [v0, v1, v2] := ((h.set 0 v0).set 1 v1).set 2 v2
theorem row4 {w : World} {b : Nat} {t : TypeId} {x0 x1 x2 x3 : Value} (h : Row w b t [x0, x1, x2, x3]) (v0 v1 v2 v3 : Value) : Row ((((w.setCell ⟨b, 0, none⟩ v0).setCell ⟨b, 1, none⟩ v1).setCell ⟨b, 2, none⟩ v2).setCell ⟨b, 3, none⟩ v3).drew b t [v0, v1, v2, v3] := (((h.set 0 v0).set 1 v1).set 2 v2).set 3 v3
theorem two_rows {w : World} {b c : Nat} {t u : TypeId} {x0 x1 x2 y0 y1 y2 y3 : Value} (h : Row w b t [x0, x1, x2]) (k : Row w c u [y0, y1, y2, y3]) (hn : b ≠ c) (v0 v1 v2 u0 u1 u2 u3 : Value) :
    ∃ w1, w.grownBy w1 (some b) ∧ w1.grownBy ((((((((w.setCell ⟨b, 0, none⟩ v0).setCell ⟨b, 1, none⟩ v1).setCell ⟨b, 2, none⟩ v2).setCell ⟨c, 0, none⟩ u0).setCell ⟨c, 1, none⟩ u1).setCell ⟨c, 2, none⟩ u2).setCell ⟨c, 3, none⟩ u3).drew) (some c) ∧
      Row (((((((w.setCell ⟨b, 0, none⟩ v0).setCell ⟨b, 1, none⟩ v1).setCell ⟨b, 2, none⟩ v2).setCell ⟨c, 0, none⟩ u0).setCell ⟨c, 1, none⟩ u1).setCell ⟨c, 2, none⟩ u2).setCell ⟨c, 3, none⟩ u3).drew b t [v0, v1, v2] ∧
      Row (((((((w.setCell ⟨b, 0, none⟩ v0).setCell ⟨b, 1, none⟩ v1).setCell ⟨b, 2, none⟩ v2).setCell ⟨c, 0, none⟩ u0).setCell ⟨c, 1, none⟩ u1).setCell ⟨c, 2, none⟩ u2).setCell ⟨c, 3, none⟩ u3).drew c u [u0, u1, u2, u3] := by
  have r1 := row3 h v0 v1 v2
  have g1 := grown3 w b v0 v1 v2
  have k1 := k.grown g1 (fun e => hn (by injection e))
  generalize ((w.setCell ⟨b, 0, none⟩ v0).setCell ⟨b, 1, none⟩ v1).setCell ⟨b, 2, none⟩ v2 = w1 at *
  have g2 := zBg (grown4 w1 c u0 u1 u2 u3)
  exact ⟨w1, g1, g2, r1.grown g2 (fun e => hn (by injection e with e; exact e.symm)), row4 k1 u0 u1 u2 u3⟩
theorem zAk {P : Program} {fn : Func} {p t : Tmp} {ty uy : TypeId} (h : fn.results = #[.cell p ty, .cell t uy]) (tmps : Array Value) (w : World) (g g2 : Nat) (tt t2 : TypeId) (cs c2 : Array Value) (fr f2 : Nat × Nat) (d d2 : TypeDesc)
    (hp : tmps.getD p undef = .pointer (some ⟨g, 0, none⟩)) (hp2 : tmps.getD t undef = .pointer (some ⟨g2, 0, none⟩)) (hg : w.heap[g]? = some (.cells cs tt fr)) (hg2 : w.heap[g2]? = some (.cells c2 t2 f2))
    (hu : P.underlying ty = some d) (hd : (match d with | .struct _ | .array _ _ => true | _ => false) = true) (hi : (P.info? ty).map (·.size) = some cs.size)
    (hu2 : P.underlying uy = some d2) (hd2 : (match d2 with | .struct _ | .array _ _ => true | _ => false) = true) (hi2 : (P.info? uy).map (·.size) = some c2.size) :
    (results fn tmps).run P w = .ok (.tuple #[.agg cs, .agg c2]) w := by
  have hp' : tmps[p]?.getD undef = .pointer (some ⟨g, 0, none⟩) := by simpa using hp
  have hp2' : tmps[t]?.getD undef = .pointer (some ⟨g2, 0, none⟩) := by simpa using hp2
  simp [results, h, hp', hp2', asAddr, run_loadVar_row w g tt ty cs fr d hg hu hd hi, run_loadVar_row w g2 t2 uy c2 f2 d2 hg2 hu2 hd2 hi2]
set_option maxRecDepth 10000 in
set_option maxHeartbeats 4000000 in
theorem zEw (w : World) (bv : Value) (l : List Int) (p : Nat) (bad : Bool) (hrd : Rd w bv l) (hp : p ≤ l.length) (hl : l.length ≤ 1048576) :
    Calls Tryz.prog 81 #[.agg #[bv, .int .i64 (p : Int), .bool bad]] w (zH4 zBc (VA zCs) w bv l p bad) := by
  obtain ⟨ab, cb, rfl, hcb⟩ := hrd.2.form
  obtain ⟨q0, bad0, hq0', hbad0⟩ : ∃ q0 bad0, q0 = p ∧ bad0 = bad := ⟨_, _, rfl, rfl⟩
  rw [← hq0', ← hbad0]
  have hq0 : q0 ≤ l.length := by omega
  clear hq0' hbad0 hp p bad
  obtain ⟨w2, hw2⟩ : ∃ w2, w2 = (((w.alloc (.cells ([.slice ab (bc l).length cb, .int .i64 (q0 : Int), .bool bad0] : List Value).toArray 89)).alloc (.cells ([.slice none 0 0, .int .i64 0, .bool false] : List Value).toArray 89)).alloc (.cells ([.int .i64 0, .int .i64 0, .slice none 0 0, .slice none 0 0] : List Value).toArray 34)).alloc (.cells ([.int .i64 0, .int .i64 0, .slice none 0 0, .slice none 0 0] : List Value).toArray 34) := ⟨_, rfl⟩
  have hs : Row w2 w.heap.size 89 [.slice ab (bc l).length cb, .int .i64 (q0 : Int), .bool bad0] := by rw [hw2]; exact zA4 (zA4 (zA4 (Row.new w _ _) _) _) _
  have ho : Row w2 (w.heap.size + 1) 89 [.slice none 0 0, .int .i64 0, .bool false] := by
    rw [hw2]; refine zA4 (zA4 ?_ _) _
    have := Row.new (w.alloc (.cells ([.slice ab (bc l).length cb, .int .i64 (q0 : Int), .bool bad0] : List Value).toArray 89)) 89 [.slice none 0 0, .int .i64 0, .bool false]
    simpa using this
  have hz : Row w2 (w.heap.size + 1 + 1) 34 [.int .i64 0, .int .i64 0, .slice none 0 0, .slice none 0 0] := by
    rw [hw2]; refine zA4 ?_ _
    have := Row.new ((w.alloc (.cells ([.slice ab (bc l).length cb, .int .i64 (q0 : Int), .bool bad0] : List Value).toArray 89)).alloc (.cells ([.slice none 0 0, .int .i64 0, .bool false] : List Value).toArray 89)) 34 [.int .i64 0, .int .i64 0, .slice none 0 0, .slice none 0 0]
    simpa using this
  have hv : Row w2 (w.heap.size + 1 + 1 + 1) 34 [.int .i64 0, .int .i64 0, .slice none 0 0, .slice none 0 0] := by
    rw [hw2]
    have := Row.new (((w.alloc (.cells ([.slice ab (bc l).length cb, .int .i64 (q0 : Int), .bool bad0] : List Value).toArray 89)).alloc (.cells ([.slice none 0 0, .int .i64 0, .bool false] : List Value).toArray 89)).alloc (.cells ([.int .i64 0, .int .i64 0, .slice none 0 0, .slice none 0 0] : List Value).toArray 34)) 34 [.int .i64 0, .int .i64 0, .slice none 0 0, .slice none 0 0]
    simpa using this
  have B : Below w.heap.size w w2 := by rw [hw2]; exact ((((Below.refl _ w).alloc zN _).alloc (by simp) _).alloc (by simp; omega) _).alloc (by simp; omega) _
  have hC : w.heap.size + 4 ≤ w2.heap.size := by rw [hw2]; simp
  go_enter Tryz.func81, Tryz.ntmps81
  go_upto_region 2 with fail
  rw [← hw2]
  clear hw2
  have hG := zAr _ _ l q0 bad0 (hrd.below B) hq0 hl
  go_upto_region 3 with (first
    | (refine zAa rfl _ _ rfl w.heap.size rfl _ _ hs _ Tryz.underlying89 rfl (by kernel_rfl) ?_)
    | (go_at_call 46; refine hG.mono ?_; rintro e wa0 ⟨a0, v0, q1, bad1, rfl, hq1, hb0, rfl, he0⟩; have hsa := hs.below hb0; have hva := hv.below hb0)
    | (refine zA7 rfl _ _ _ rfl w.heap.size [.slice ab (bc l).length cb, .int .i64 (q1 : Int), .bool bad1] rfl rfl _ _ hsa rfl (by kernel_rfl) (zAf rfl) ?_; intro wb0 hsb hgb0; have hvb := hva.grown hgb0 (fun h => by injection h; omega))
    | (refine zAb rfl _ _ _ rfl (w.heap.size + 1 + 1 + 1) 0 _ rfl rfl _ _ hvb (show 0 < 4 by decide) (by kernel_rfl) rfl ?_; intro wc0 hvc hgc0))
  have hs := hsb.out.grown hgc0 (fun h => by injection h; omega)
  have hv : Row wc0 (w.heap.size + 1 + 1 + 1) 34 [.int .i64 a0, .int .i64 0, .slice none 0 0, .slice none 0 0] := hvc.out
  have ho := ((ho.below hb0).grown hgb0 (fun h => by injection h; omega)).grown hgc0 (fun h => by injection h; omega)
  have hz := ((hz.below hb0).grown hgb0 (fun h => by injection h; omega)).grown hgc0 (fun h => by injection h; omega)
  have he0 := (show Hid _ from he0)
  have B := zA3 (zA3 (zA1 B zN hb0) hgb0 zN (Nat.le_trans (by omega) (Nat.le_trans hC hb0.size))) hgc0 (by omega) (Nat.le_trans (by omega) (Nat.le_trans hC (Nat.le_trans hb0.size hgb0.size)))
  have hC := Nat.le_trans hC (Nat.le_trans hb0.size (Nat.le_trans hgb0.size hgc0.size))
  clear hG hsa hva hsb hvb hvc hgb0 hgc0 hb0
  have hG := zAr _ _ l q1 bad1 (hrd.below B) hq1 hl
  go_upto_region 4 with (first
    | (refine zAa rfl _ _ rfl w.heap.size rfl _ _ hs _ Tryz.underlying89 rfl (by kernel_rfl) ?_)
    | (go_at_call 46; refine hG.mono ?_; rintro e wa1 ⟨a1, v1, q2, bad2, rfl, hq2, hb1, rfl, he1⟩; have hsa := hs.below hb1; have hva := hv.below hb1)
    | (refine zA7 rfl _ _ _ rfl w.heap.size [.slice ab (bc l).length cb, .int .i64 (q2 : Int), .bool bad2] rfl rfl _ _ hsa rfl (by kernel_rfl) (zAf rfl) ?_; intro wb1 hsb hgb1; have hvb := hva.grown hgb1 (fun h => by injection h; omega))
    | (refine zAb rfl _ _ _ rfl (w.heap.size + 1 + 1 + 1) 1 _ rfl rfl _ _ hvb (show 1 < 4 by decide) (by kernel_rfl) rfl ?_; intro wc1 hvc hgc1))
  have hs := hsb.out.grown hgc1 (fun h => by injection h; omega)
  have hv : Row wc1 (w.heap.size + 1 + 1 + 1) 34 [.int .i64 a0, .int .i64 a1, .slice none 0 0, .slice none 0 0] := hvc.out
  have ho := ((ho.below hb1).grown hgb1 (fun h => by injection h; omega)).grown hgc1 (fun h => by injection h; omega)
  have hz := ((hz.below hb1).grown hgb1 (fun h => by injection h; omega)).grown hgc1 (fun h => by injection h; omega)
  have he1 := (show Hid _ from he1)
  have B := zA3 (zA3 (zA1 B zN hb1) hgb1 zN (Nat.le_trans (by omega) (Nat.le_trans hC hb1.size))) hgc1 (by omega) (Nat.le_trans (by omega) (Nat.le_trans hC (Nat.le_trans hb1.size hgb1.size)))
  have hC := Nat.le_trans hC (Nat.le_trans hb1.size (Nat.le_trans hgb1.size hgc1.size))
  clear hG hsa hva hsb hvb hvc hgb1 hgc1 hb1
  have hG := zC2 _ _ l q2 bad2 (hrd.below B) hq2 hl
  go_upto_region 5 with (first
    | (refine zAa rfl _ _ rfl w.heap.size rfl _ _ hs _ Tryz.underlying89 rfl (by kernel_rfl) ?_)
    | (go_at_call 82; refine hG.mono ?_; rintro e wa2 ⟨a2, v2, q3, bad3, rfl, hq3, hb2, f2, he2⟩; have hsa := hs.below hb2; have hva := hv.below hb2)
    | (refine zA7 rfl _ _ _ rfl w.heap.size [.slice ab (bc l).length cb, .int .i64 (q3 : Int), .bool bad3] rfl rfl _ _ hsa rfl (by kernel_rfl) (zAf rfl) ?_; intro wb2 hsb hgb2; have hvb := hva.grown hgb2 (fun h => by injection h; omega))
    | (refine zAb rfl _ _ _ rfl (w.heap.size + 1 + 1 + 1) 2 _ rfl rfl _ _ hvb (show 2 < 4 by decide) (by kernel_rfl) f2.one ?_; intro wc2 hvc hgc2))
  have hs := hsb.out.grown hgc2 (fun h => by injection h; omega)
  have hv : Row wc2 (w.heap.size + 1 + 1 + 1) 34 [.int .i64 a0, .int .i64 a1, v2, .slice none 0 0] := hvc.out
  have ho := ((ho.below hb2).grown hgb2 (fun h => by injection h; omega)).grown hgc2 (fun h => by injection h; omega)
  have hz := ((hz.below hb2).grown hgb2 (fun h => by injection h; omega)).grown hgc2 (fun h => by injection h; omega)
  have he2 := (show Hid _ from he2)
  have f2 := ((f2.mv (Mv.weak (L := w.heap.size + 4) hC)).mv (Mv.from hgb2 (by omega) zN)).mv (Mv.from hgc2 (by omega) zN)
  have B := zA3 (zA3 (zA1 B zN hb2) hgb2 zN (Nat.le_trans (by omega) (Nat.le_trans hC hb2.size))) hgc2 (by omega) (Nat.le_trans (by omega) (Nat.le_trans hC (Nat.le_trans hb2.size hgb2.size)))
  have hC := Nat.le_trans hC (Nat.le_trans hb2.size (Nat.le_trans hgb2.size hgc2.size))
  clear hG hsa hva hsb hvb hvc hgb2 hgc2 hb2
  have hG := zC2 _ _ l q3 bad3 (hrd.below B) hq3 hl
  go_upto_region 6 with (first
    | (refine zAa rfl _ _ rfl w.heap.size rfl _ _ hs _ Tryz.underlying89 rfl (by kernel_rfl) ?_)
    | (go_at_call 82; refine hG.mono ?_; rintro e wa3 ⟨a3, v3, q4, bad4, rfl, hq4, hb3, f3, he3⟩; have hsa := hs.below hb3; have hva := hv.below hb3)
    | (refine zA7 rfl _ _ _ rfl w.heap.size [.slice ab (bc l).length cb, .int .i64 (q4 : Int), .bool bad4] rfl rfl _ _ hsa rfl (by kernel_rfl) (zAf rfl) ?_; intro wb3 hsb hgb3; have hvb := hva.grown hgb3 (fun h => by injection h; omega))
    | (refine zAb rfl _ _ _ rfl (w.heap.size + 1 + 1 + 1) 3 _ rfl rfl _ _ hvb (show 3 < 4 by decide) (by kernel_rfl) f3.one ?_; intro wc3 hvc hgc3))
  have hs := hsb.out.grown hgc3 (fun h => by injection h; omega)
  have hv : Row wc3 (w.heap.size + 1 + 1 + 1) 34 [.int .i64 a0, .int .i64 a1, v2, v3] := hvc.out
  have ho := ((ho.below hb3).grown hgb3 (fun h => by injection h; omega)).grown hgc3 (fun h => by injection h; omega)
  have hz := ((hz.below hb3).grown hgb3 (fun h => by injection h; omega)).grown hgc3 (fun h => by injection h; omega)
  have he3 := (show Hid _ from he3)
  have f2 := ((f2.mv (Mv.belowF hb3 zN)).mv (Mv.from hgb3 (by omega) zN)).mv (Mv.from hgc3 (by omega) zN)
  have f3 := ((f3.mv (Mv.weak (L := w.heap.size + 4) hC)).mv (Mv.from hgb3 (by omega) zN)).mv (Mv.from hgc3 (by omega) zN)
  have B := zA3 (zA3 (zA1 B zN hb3) hgb3 zN (Nat.le_trans (by omega) (Nat.le_trans hC hb3.size))) hgc3 (by omega) (Nat.le_trans (by omega) (Nat.le_trans hC (Nat.le_trans hb3.size hgb3.size)))
  have hC := Nat.le_trans hC (Nat.le_trans hb3.size (Nat.le_trans hgb3.size hgc3.size))
  clear hG hsa hva hsb hvb hvc hgb3 hgc3 hb3
  obtain ⟨ao2, cc2, rfl, hcc2⟩ := f2.form
  obtain ⟨ao3, cc3, rfl, hcc3⟩ := f3.form
  have i0 := hs.cell (j := 0) rfl
  have i1 := hs.cell (j := 1) rfl
  have i2 := hs.cell (j := 2) rfl
  have j0 := hv.cell (j := 0) rfl
  have j1 := hv.cell (j := 1) rfl
  have j2 := hv.cell (j := 2) rfl
  have j3 := hv.cell (j := 3) rfl
  have m0 := ho.cell (j := 0) rfl
  have m1 := ho.cell (j := 1) rfl
  have m2 := ho.cell (j := 2) rfl
  have n0 := hz.cell (j := 0) rfl
  have n1 := hz.cell (j := 1) rfl
  have n2 := hz.cell (j := 2) rfl
  have n3 := hz.cell (j := 3) rfl
  have x0 := ho.frozen 0
  have x1 := ho.frozen 1
  have x2 := ho.frozen 2
  have y0 := hz.frozen 0
  have y1 := hz.frozen 1
  have y2 := hz.frozen 2
  have y3 := hz.frozen 3
  have FINQ := (show Hid (∀ (u1 u2 : World) (b1 b2 : Nat), wc3.grownBy u1 (some b1) → u1.grownBy u2 (some b2) → w.heap.size ≤ b1 → b1 < w.heap.size + 4 → w.heap.size ≤ b2 → b2 < w.heap.size + 4 →
      zH4 zBc (VA zCs) w (.slice ab (bc l).length cb) l q0 bad0 (.returned (.tuple #[.agg ([.slice ab (bc l).length cb, .int .i64 (q4 : Int), .bool bad4] : List Value).toArray, .agg ([.int .i64 a0, .int .i64 a1, .slice ao2 a2.length cc2, .slice ao3 a3.length cc3] : List Value).toArray])) u2) from fun u1 u2 b1 b2 g1 g2 k1 k2 k3 k4 =>
    ⟨(a0, a1, a2, a3), _, q4, bad4, rfl, hq4, zA3 (zA3 B g1 k1 (Nat.le_trans (by omega) hC)) g2 k3 (Nat.le_trans (Nat.le_trans (by omega) hC) g1.size),
      ⟨_, rfl, _, _, rfl, ((f2.mv (Mv.from g1 k2 zN)).mv (Mv.from g2 k4 zN)).mv (Mv.weak (by omega)), ((f3.mv (Mv.from g1 k2 zN)).mv (Mv.from g2 k4 zN)).mv (Mv.weak (by omega))⟩,
      zAs he0.out (zAs he1.out (zAs he2.out he3.out))⟩)
  have ROWS := (show Hid (Row wc3 (w.heap.size + 1) 89 [.slice none 0 0, .int .i64 0, .bool false] ∧ Row wc3 (w.heap.size + 1 + 1) 34 [.int .i64 0, .int .i64 0, .slice none 0 0, .slice none 0 0]) from ⟨ho, hz⟩)
  clear hs ho hz hv f2 f3 he0 he1 he2 he3 B hC hrd hl
  go_region
  all_goals (
    obtain ⟨u1, gA, gB, rA, rB⟩ := two_rows ROWS.out.1 ROWS.out.2 (by omega) (.slice ab (bc l).length cb) (.int .i64 (q4 : Int)) (.bool bad4) (.int .i64 a0) (.int .i64 a1) (.slice ao2 a2.length cc2) (.slice ao3 a3.length cc3)
    clear ROWS i0 i1 i2 j0 j1 j2 j3 m0 m1 m2 n0 n1 n2 n3 x0 x1 x2 y0 y1 y2 y3
    generalize (((((((wc3.setCell ⟨w.heap.size + 1, 0, none⟩ (.slice ab (bc l).length cb)).setCell ⟨w.heap.size + 1, 1, none⟩ (.int .i64 (q4 : Int))).setCell ⟨w.heap.size + 1, 2, none⟩ (.bool bad4)).setCell ⟨w.heap.size + 1 + 1, 0, none⟩ (.int .i64 a0)).setCell ⟨w.heap.size + 1 + 1, 1, none⟩ (.int .i64 a1)).setCell ⟨w.heap.size + 1 + 1, 2, none⟩ (.slice ao2 a2.length cc2)).setCell ⟨w.heap.size + 1 + 1, 3, none⟩ (.slice ao3 a3.length cc3)).drew = z at *
    have FF := FINQ.out _ _ _ _ gA gB (by omega) (by omega) (by omega) (by omega)
    go_wp2_with fail
    refine bodyPost_ret (zAk rfl _ _ (w.heap.size + 1) (w.heap.size + 1 + 1) _ _ _ _ (0, 0) (0, 0) _ _ (by rfl) (by rfl) rA rB Tryz.underlying89 rfl (by kernel_rfl) Tryz.underlying34 rfl (by kernel_rfl)) rfl ?_
    exact FF)
end
section
open Go.RowKit Oct
theorem zEa {α : Type} {c : Cdc α} {l : List Int} {p : Nat} {b : Bool} : (stL l p b).bind (rdN c 0) = (stL l p b).map fun r => (([] : List α), r) := by
  cases stL l p b <;> rfl
theorem zEb {α : Type} {c : Cdc α} {l : List Int} {p r s n : Nat} {b0 b1 b2 : Bool} {ys : List α} {y : α} (h1 : (stL l p b0).bind (rdN c n) = (stL l r b1).map fun t => (ys, t)) (h2 : (stL l r b1).bind c.rd = (stL l s b2).map fun t => (y, t)) :
    (stL l p b0).bind (rdN c (n + 1)) = (stL l s b2).map fun t => (ys ++ [y], t) := by
  have e : rdN c (n + 1) = fun l => (rdN c n l).bind fun x => (c.rd x.2).map fun y => (x.1 ++ [y.1], y.2) := funext fun l => zCt c n l
  rw [e, ← Option.bind_assoc, h1]
  cases hq : stL l r b1 with
  | none =>
    rw [hq] at h2
    cases hr : stL l s b2 with
    | none => rfl
    | some s => rw [hr] at h2; cases h2
  | some t =>
    rw [hq] at h2
    have h2' : c.rd t = (stL l s b2).map fun t => (y, t) := h2
    simp only [Option.map_some, Option.bind_some, h2']
    cases stL l s b2 <;> rfl
theorem zG1 {α : Type} {c : Cdc α} {l : List Int} {p r s n : Nat} {N : Int} {b0 b1 b2 : Bool} {ys : List α} (h0 : (stL l p b0).bind cM.rd = (stL l r b1).map fun t => (N, t)) (h1 : (stL l r b1).bind (rdN c n) = (stL l s b2).map fun t => (ys, t)) (hn : n = N.toNat ∨ (n ≤ N.toNat ∧ b2 = true)) :
    (stL l p b0).bind (cL c).rd = (stL l s b2).map fun t => (ys, t) := by
  have e : (cL c).rd = fun l => (cM.rd l).bind fun x => rdN c x.1.toNat x.2 := by
    funext l
    show (cN.rd l).bind _ = ((cN.rd l).bind _).bind _
    rw [Option.bind_assoc]
    congr 1
    funext x
    split <;> simp_all
  rw [e, ← Option.bind_assoc, h0]
  rcases hn with hn | ⟨hn, rfl⟩
  · subst hn
    rw [← h1]
    cases stL l r b1 with
    | none => rfl
    | some t => simp
  · have h1' : (stL l r b1).bind (rdN c n) = none := h1
    show _ = none
    cases hq : stL l r b1 with
    | none => rfl
    | some t =>
      rw [hq] at h1'
      have h2 : rdN c n t = none := h1'
      simp [zPq h2 N.toNat hn]
theorem zT8 {l : List Int} {p r : Nat} {b0 : Bool} {n : Int} (h : (stL l p b0).bind cM.rd = (stL l r false).map fun t => (n, t)) : n ≤ 64 := by
  have h1 : (stL l p b0).bind (fun l => (cN.rd l).bind fun x => if 64 < x.1 then none else some x) = some (n, l.drop r) := h
  rw [← Option.bind_assoc] at h1
  cases hx : (stL l p b0).bind cN.rd with
  | none => rw [hx] at h1; cases h1
  | some x =>
    rw [hx] at h1
    simp only [Option.bind_some] at h1
    split at h1
    · cases h1
    · cases h1; omega
theorem zIt {α : Type} {l : List Int} {r s : Nat} {b1 : Bool} {f : List Int → Option (α × List Int)} {y : α} (h : (stL l r b1).bind f = (stL l s false).map fun t => (y, t)) : b1 = false := by
  cases b1
  · rfl
  · cases h
end
section
open Go.RowKit Oct
set_option maxRecDepth 10000 in
set_option maxHeartbeats 4000000 in
theorem zDb (w : World) (bv : Value) (l : List Int) (p : Nat) (bad : Bool) (hrd : Rd w bv l) (hp : p ≤ l.length) (hl : l.length ≤ 1048576) :
    Calls Tryz.prog 83 #[.agg #[bv, .int .i64 (p : Int), .bool bad]] w (zH4 (cL zAi) (RL zAz 2) w bv l p bad) := by
  obtain ⟨ab, cb, rfl, hcb⟩ := hrd.2.form
  obtain ⟨w2, hw2⟩ : ∃ w2, w2 = ((w.alloc (.cells ([.slice ab (bc l).length cb, .int .i64 (p : Int), .bool bad] : List Value).toArray 89)).alloc (.cells ([.slice none 0 0, .int .i64 0, .bool false] : List Value).toArray 89)).alloc (.cells #[] 58) := ⟨_, rfl⟩
  have hs : Row w2 w.heap.size 89 [.slice ab (bc l).length cb, .int .i64 (p : Int), .bool bad] := by rw [hw2]; exact zA4 (zA4 (Row.new w _ _) _) _
  have ho : Row w2 (w.heap.size + 1) 89 [.slice none 0 0, .int .i64 0, .bool false] := by
    rw [hw2]; refine zA4 ?_ _
    have := Row.new (w.alloc (.cells ([.slice ab (bc l).length cb, .int .i64 (p : Int), .bool bad] : List Value).toArray 89)) 89 [.slice none 0 0, .int .i64 0, .bool false]
    simpa using this
  have hL2 : LB zAz 58 2 (w.heap.size + 1 + 1) w2 (.slice (some ⟨w.heap.size + 1 + 1, 0, none⟩) 0 0) [] := by
    rw [hw2]
    have := LB.fresh zAz 58 2 (w.heap.size + 1 + 1) ((w.alloc (.cells ([.slice ab (bc l).length cb, .int .i64 (p : Int), .bool bad] : List Value).toArray 89)).alloc (.cells ([.slice none 0 0, .int .i64 0, .bool false] : List Value).toArray 89)) (by simp)
    simpa using this
  have B : Below w.heap.size w w2 := by rw [hw2]; exact (((Below.refl _ w).alloc zN _).alloc (by simp) _).alloc (by simp; omega) _
  have hC : w.heap.size + 1 + 1 ≤ w2.heap.size := by rw [hw2]; simp
  have hG := zD4 _ _ l p bad (hrd.below B) hp hl
  go_enter Tryz.func83, Tryz.ntmps83
  go_upto_region 2 with fail
  rw [← hw2]
  clear hw2
  go_upto_region 4 with (first
    | (refine zAa rfl _ _ rfl w.heap.size rfl _ _ hs _ Tryz.underlying89 rfl (by kernel_rfl) ?_)
    | (go_at_call 121; refine hG.mono ?_; rintro e w3 ⟨n, v3, p1, b1, rfl, hp1, hb3, rfl, he⟩; have hs3 := hs.below hb3)
    | (refine zA7 rfl _ _ _ rfl w.heap.size [.slice ab (bc l).length cb, .int .i64 (p1 : Int), .bool b1] rfl rfl _ _ hs3 rfl (by kernel_rfl) (zAf rfl) ?_; intro w4 hs4 hg4))
  have hs := hs4.out
  have ho := (ho.below hb3).grown hg4 (fun h => by injection h; omega)
  have hL4 := (hL2.below zA9 hb3).grown zA9 hg4 (by omega)
  have B := zA3 (zA1 B zN hb3) hg4 zN (Nat.le_trans (by omega) (Nat.le_trans hC hb3.size))
  have hC := Nat.le_trans hC (Nat.le_trans hb3.size hg4.size)
  have HE := (show Hid ((stL l p bad).bind cM.rd = (stL l p1 b1).map fun t => (n, t)) from he)
  clear he hG hs3 hs4 hL2 hb3 hg4
  go_loopw [4, 6] (fun v i wr => ∃ (q pq : Nat) (bq : Bool) (ys : List zAy), q ≤ n.toNat ∧ i = .int .i64 q ∧ ys.length = q ∧ Hid ((stL l p1 b1).bind (rdN zAi q) = (stL l pq bq).map fun t => (ys, t)) ∧ pq ≤ l.length ∧ LB zAz 58 2 (w.heap.size + 1 + 1) wr v ys ∧ Row wr w.heap.size 89 [.slice ab (bc l).length cb, .int .i64 (pq : Int), .bool bq] ∧ Row wr (w.heap.size + 1) 89 [.slice none 0 0, .int .i64 0, .bool false] ∧ Below w.heap.size w wr ∧ w.heap.size + 1 + 1 ≤ wr.heap.size) (fun _ i _ => n.toNat - (intOf i).toNat)
  case atStart => exact ⟨0, p1, b1, [], by omega, rfl, rfl, zEa, hp1, hL4, hs, ho, B, hC⟩
  case round =>
  clear hs ho hL4 B hC
  obtain ⟨q, q0, bad0, ys, hqn, rfl, hyl, hrdq, hq0, hLB, hs, ho, B, hCr⟩ := hrel
  have i2 := hs.cell (j := 2) rfl
  by_cases hend : (q : Int) < n ∧ bad0 = false
  rotate_left
  · have HF := (show Hid ((stL l p bad).bind (cL zAi).rd = (stL l q0 bad0).map fun t => (ys, t)) from zG1 HE.out hrdq.out (by
      by_cases h1 : (q : Int) < n
      · right; refine ⟨hqn, ?_⟩; cases bad0
        · exact absurd ⟨h1, rfl⟩ hend
        · rfl
      · left; omega))
    have hrl := hLB.rl zA9
    by_cases h1 : (q : Int) < n
    · obtain rfl : bad0 = true := by cases bad0 <;> simp_all
      clear hend
      go_wp2_with (first
        | (refine zAa rfl _ _ rfl w.heap.size rfl _ _ hs _ Tryz.underlying89 rfl (by kernel_rfl) ?_)
        | (refine zA7 rfl _ _ _ rfl (w.heap.size + 1) [.slice ab (bc l).length cb, .int .i64 (q0 : Int), .bool true] rfl rfl _ _ ho rfl (by kernel_rfl) (zAf rfl) ?_; intro w9 hr9 hg9))
      refine bodyPost_ret (zB2 rfl _ _ (w.heap.size + 1) _ _ (0, 0) _ (by rfl) hr9.out Tryz.underlying89 rfl (by kernel_rfl)) rfl ?_
      exact ⟨ys, _, q0, _, rfl, hq0, zA3 B hg9 (by omega) (by omega), hrl.mv zA9 hg9.size (Mv.from hg9 (by omega) (by omega)), HF.out⟩
    · clear hend
      go_wp2_with (first
        | (refine zAa rfl _ _ rfl w.heap.size rfl _ _ hs _ Tryz.underlying89 rfl (by kernel_rfl) ?_)
        | (refine zA7 rfl _ _ _ rfl (w.heap.size + 1) [.slice ab (bc l).length cb, .int .i64 (q0 : Int), .bool bad0] rfl rfl _ _ ho rfl (by kernel_rfl) (zAf rfl) ?_; intro w9 hr9 hg9))
      refine bodyPost_ret (zB2 rfl _ _ (w.heap.size + 1) _ _ (0, 0) _ (by rfl) hr9.out Tryz.underlying89 rfl (by kernel_rfl)) rfl ?_
      exact ⟨ys, _, q0, _, rfl, hq0, zA3 B hg9 (by omega) (by omega), hrl.mv zA9 hg9.size (Mv.from hg9 (by omega) (by omega)), HF.out⟩
  obtain ⟨hqn2, rfl⟩ := hend
  have hn64 : n ≤ 64 := by have := HE.out; rw [zIt hrdq.out] at this; exact zT8 this
  obtain ⟨bad0, hbad0⟩ : ∃ b, b = false := ⟨_, rfl⟩
  obtain ⟨w5, hw5⟩ : ∃ w5, w5 = wr.alloc (.cells ([.int .i64 0, .slice none 0 0] : List Value).toArray 58) := ⟨_, rfl⟩
  have hv : Row w5 wr.heap.size 58 [.int .i64 0, .slice none 0 0] := by rw [hw5]; exact Row.new wr 58 _
  have hb5 : Below wr.heap.size wr w5 := by rw [hw5]; exact zA0 _ _
  have hC : wr.heap.size + 1 ≤ w5.heap.size := by rw [hw5]; simp
  go_upto_region 7 with fail
  rw [← hw5]
  clear hw5 i2
  have hs := hs.below hb5
  have ho := ho.below hb5
  have B := zA1 B zN hb5
  have hT := zA8 hb5 (some w.heap.size)
  clear hb5
  rw [← hbad0] at hs hrdq
  clear hbad0
  have hG := zAr _ _ l q0 bad0 (hrd.below B) hq0 hl
  go_upto_region 8 with (first
    | (refine zAa rfl _ _ rfl w.heap.size rfl _ _ hs _ Tryz.underlying89 rfl (by kernel_rfl) ?_)
    | (go_at_call 46; refine hG.mono ?_; rintro e wa0 ⟨a0, v0, q1, bad1, rfl, hq1, hb0, rfl, he0⟩; have hsa := hs.below hb0; have hva := hv.below hb0)
    | (refine zA7 rfl _ _ _ rfl w.heap.size [.slice ab (bc l).length cb, .int .i64 (q1 : Int), .bool bad1] rfl rfl _ _ hsa rfl (by kernel_rfl) (zAf rfl) ?_; intro wb0 hsb hgb0; have hvb := hva.grown hgb0 (fun h => by injection h; omega))
    | (refine zAb rfl _ _ _ rfl (wr.heap.size) 0 _ rfl rfl _ _ hvb (show 0 < 2 by decide) (by kernel_rfl) rfl ?_; intro wc0 hvc hgc0))
  have hs := hsb.out.grown hgc0 (fun h => by injection h; omega)
  have hv : Row wc0 (wr.heap.size) 58 [.int .i64 a0, .slice none 0 0] := hvc.out
  have ho := ((ho.below hb0).grown hgb0 (fun h => by injection h; omega)).grown hgc0 (fun h => by injection h; omega)
  have he0 := (show Hid _ from he0)
  have B := zA3 (zA3 (zA1 B zN hb0) hgb0 zN (Nat.le_trans (by omega) (Nat.le_trans hC hb0.size))) hgc0 (by omega) (Nat.le_trans (by omega) (Nat.le_trans hC (Nat.le_trans hb0.size hgb0.size)))
  have hC := Nat.le_trans hC (Nat.le_trans hb0.size (Nat.le_trans hgb0.size hgc0.size))
  have hT := zA2 (zA2 (zA2 hT (zA8 hb0 _) (.inl rfl)) hgb0 (.inl rfl)) hgc0 (.inr fun k hk => by cases hk; exact zN)
  clear hG hsa hva hsb hvb hvc hgb0 hgc0 hb0
  have hG := zC2 _ _ l q1 bad1 (hrd.below B) hq1 hl
  go_upto_region 9 with (first
    | (refine zAa rfl _ _ rfl w.heap.size rfl _ _ hs _ Tryz.underlying89 rfl (by kernel_rfl) ?_)
    | (go_at_call 82; refine hG.mono ?_; rintro e wa1 ⟨a1, v1, q2, bad2, rfl, hq2, hb1, f1, he1⟩; have hsa := hs.below hb1; have hva := hv.below hb1)
    | (refine zA7 rfl _ _ _ rfl w.heap.size [.slice ab (bc l).length cb, .int .i64 (q2 : Int), .bool bad2] rfl rfl _ _ hsa rfl (by kernel_rfl) (zAf rfl) ?_; intro wb1 hsb hgb1; have hvb := hva.grown hgb1 (fun h => by injection h; omega))
    | (refine zAb rfl _ _ _ rfl (wr.heap.size) 1 _ rfl rfl _ _ hvb (show 1 < 2 by decide) (by kernel_rfl) f1.one ?_; intro wc1 hvc hgc1))
  have hs := hsb.out.grown hgc1 (fun h => by injection h; omega)
  have hv : Row wc1 (wr.heap.size) 58 [.int .i64 a0, v1] := hvc.out
  have ho := ((ho.below hb1).grown hgb1 (fun h => by injection h; omega)).grown hgc1 (fun h => by injection h; omega)
  have he1 := (show Hid _ from he1)
  have f1 := ((f1.mv (Mv.weak (L := wr.heap.size + 1) hC)).mv (Mv.from hgb1 (by omega) zN)).mv (Mv.from hgc1 (by omega) zN)
  have B := zA3 (zA3 (zA1 B zN hb1) hgb1 zN (Nat.le_trans (by omega) (Nat.le_trans hC hb1.size))) hgc1 (by omega) (Nat.le_trans (by omega) (Nat.le_trans hC (Nat.le_trans hb1.size hgb1.size)))
  have hC := Nat.le_trans hC (Nat.le_trans hb1.size (Nat.le_trans hgb1.size hgc1.size))
  have hT := zA2 (zA2 (zA2 hT (zA8 hb1 _) (.inl rfl)) hgb1 (.inl rfl)) hgc1 (.inr fun k hk => by cases hk; exact zN)
  clear hG hsa hva hsb hvb hvc hgb1 hgc1 hb1
  have hLB1 := hLB.grown zA9 hT (by omega)
  have hRc : zAz (zB0 wr.heap.size) wc1 [.int .i64 a0, v1] (a0, a1) := ⟨_, rfl, f1.mv (Mv.weak (by omega))⟩
  have hc1 := zD2 hRc
  have HR3 := (show Hid ((stL l p1 b1).bind (rdN zAi (q + 1)) = (stL l q2 bad2).map fun t => (ys ++ [(a0, a1)], t)) from zEb hrdq.out (zAs he0.out he1.out))
  have hBs : w.heap.size + 1 + 1 ≤ wr.heap.size := hCr
  have hlt := hLB.lt
  have hfr := hLB.fr
  go_wp2_with (first
    | (refine zAa rfl _ _ rfl wr.heap.size rfl _ _ hv _ Tryz.underlying58 rfl (by kernel_rfl) ?_)
    | (at_builtin; refine zCq zA9 rfl _ _ _ rfl 58 2 32 _ Tryz.underlying35 Tryz.inf_votes rfl (by decide) (w.heap.size + 1 + 1) u4 ys rfl hLB1 [.int .i64 a0, v1] (a0, a1) wr.heap.size hRc rfl hc1 hBs hlt rfl (by omega) (by omega) (by decide) ?_; intro v4 w4 hLB4 hg4))
  have hs := hs.grown hg4 (fun h => by have := hfr _ h; omega)
  have ho := ho.grown hg4 (fun h => by have := hfr _ h; omega)
  have B4 : Below w.heap.size w w4 := B.trans (zA5 hg4 (Nat.le_trans (by omega) hC) (fun k hk => by have := hfr k hk; omega))
  have hC4 := Nat.le_trans hC hg4.size
  go_roundw
  case rel => exact ⟨q + 1, q2, bad2, ys ++ [(a0, a1)], by omega, by go_num, by simp [hyl], HR3, hq2, hLB4, hs, ho, B4, by omega⟩
  case measure => simp [intOf]; omega
end
section
open Go.RowKit Oct
section
variable {P : Program}
theorem zEk {ops : Array Oper} {Q : Exit → Act → World → Prop} {i : Nat} {K : Act → World → Prop} {a : Act} {w : World} {o : Oper} (hi : ops[i]? = some o) (hgd : o.guard = none) (ty : TypeId) (x : Operand) (ho : o.op = .load ty x)
    (b : Nat) (hx : a.eval x = .pointer (some ⟨b, 0, none⟩)) (t : TypeId) (xs : List Value) (h : Row w b t xs) (d : TypeDesc) (hu : P.underlying ty = some d) (hd : (match d with | .struct _ | .array _ _ => true | _ => false) = true)
    (hs : (P.info? ty).map (·.size) = some xs.length) (k : K (a.put o.dst (.agg xs.toArray)) w) : wpOp P ops Q i K a w := by
  have hw : Region.wanted o (yielded ops a.tmps) = true := by simp [Region.wanted, hgd]
  unfold wpOp
  rw [hi]
  simp only [hw, if_true]
  left
  unfold Oper.wp execOp
  simp only [ho, hx, Sem.run_bind, Sem.run_pure, Result.andThen_ok, h.load ty d hu hd hs]
  exact k
theorem zBz {ops : Array Oper} {Q : Exit → Act → World → Prop} {id : Nat} {a : Act} {w : World} (hm : P.follows .mixedOrders = true) (hsz : ops.size = 4)
    (r0 : Region.ready .any ops #[false, false, false, false] = [0, 1]) (r1 : Region.ready .any ops #[true, false, false, false] = [1, 2]) (r2 : Region.ready .any ops #[false, true, false, false] = [0]) (r3 : Region.ready .any ops #[true, true, false, false] = [2])
    (r4 : Region.ready .any ops #[true, false, true, false] = [1]) (r5 : Region.ready .any ops #[true, true, true, false] = [3]) (r6 : Region.ready .any ops #[true, true, true, true] = [])
    {o0 o1 o2 o3 : Oper} (i0 : ops[0]? = some o0) (i1 : ops[1]? = some o1) (i2 : ops[2]? = some o2) (i3 : ops[3]? = some o3) (g0 : o0.guard = none) (g1 : o1.guard = none) (g2 : o2.guard = none) (g3 : o3.guard = none)
    (T1 T2 : TypeId) (x0 x1 y0 z0 y1 z1 : Operand) (p0 : o0.op = .load T1 x0) (p1 : o1.op = .load T2 x1) (p2 : o2.op = .store T1 y0 z0) (p3 : o3.op = .store T2 y1 z1)
    (b0 b1 b2 b3 : Nat) (t0 t1 t2 t3 : TypeId) (xs ys xs2 ys2 : List Value) (R0 : Row w b0 t0 xs) (R1 : Row w b1 t1 ys) (R2 : Row w b2 t2 xs2) (R3 : Row w b3 t3 ys2) (hl2 : xs2.length = xs.length) (hl3 : ys2.length = ys.length)
    (d1 d2 : TypeDesc) (hu1 : P.underlying T1 = some d1) (hd1 : (match d1 with | .struct _ | .array _ _ => true | _ => false) = true) (hu2 : P.underlying T2 = some d2) (hd2 : (match d2 with | .struct _ | .array _ _ => true | _ => false) = true)
    (s1 : (P.info? T1).map (·.size) = some xs.length) (s2 : (P.info? T2).map (·.size) = some ys.length) (one1 : ∀ v ∈ xs, v.oneCell' = true) (one2 : ∀ v ∈ ys, v.oneCell' = true) (hne : b2 ≠ b3) (hn1 : b1 ≠ b2) (A : Act)
    (e0 : a.eval x0 = .pointer (some ⟨b0, 0, none⟩)) (e1 : a.eval x1 = .pointer (some ⟨b1, 0, none⟩)) (e0' : (a.put o1.dst (.agg ys.toArray)).eval x0 = .pointer (some ⟨b0, 0, none⟩)) (e1' : (a.put o0.dst (.agg xs.toArray)).eval x1 = .pointer (some ⟨b1, 0, none⟩))
    (j2 : (a.put o0.dst (.agg xs.toArray)).eval y0 = .pointer (some ⟨b2, 0, none⟩)) (j2' : (a.put o0.dst (.agg xs.toArray)).eval z0 = .agg xs.toArray) (k1 : (a.put o0.dst (.agg xs.toArray)).put o2.dst undef = a.put o0.dst (.agg xs.toArray))
    (q1 : (a.put o0.dst (.agg xs.toArray)).put o1.dst (.agg ys.toArray) = A) (q2 : (a.put o1.dst (.agg ys.toArray)).put o0.dst (.agg xs.toArray) = A)
    (f2 : A.eval y0 = .pointer (some ⟨b2, 0, none⟩)) (f2' : A.eval z0 = .agg xs.toArray) (f3 : A.eval y1 = .pointer (some ⟨b3, 0, none⟩)) (f3' : A.eval z1 = .agg ys.toArray) (k2 : A.put o2.dst undef = A) (k3 : A.put o3.dst undef = A)
    (h : ∀ u w', w.grownBy u (some b2) → u.grownBy w' (some b3) → Row w' b2 t2 xs → Row w' b3 t3 ys → Q .normal A w') : (Code.region id ops true).wp P Q a w := by
  have R0' : Row { w with drawn := w.drawn + 1 } b0 t0 xs := R0
  have R1' : Row { w with drawn := w.drawn + 1 } b1 t1 ys := R1
  have R2' : Row { w with drawn := w.drawn + 1 } b2 t2 xs2 := R2
  have R3' : Row { w with drawn := w.drawn + 1 } b3 t3 ys2 := R3
  have tog : ∀ {u : World} {c : Option Nat}, World.grownBy { w with drawn := w.drawn + 1 } u c → w.grownBy u c := fun {u c} hg => ⟨hg.os, hg.tape, hg.output, hg.size, hg.block⟩
  obtain ⟨W, hW⟩ : ∃ W : World, W = { w with drawn := w.drawn + 1 } := ⟨_, rfl⟩
  rw [← hW] at R0' R1' R2' R3'
  have tog : ∀ {u : World} {c : Option Nat}, W.grownBy u c → w.grownBy u c := fun {u c} hg => by rw [hW] at hg; exact tog hg
  have fin : ∀ u : World, W.grownBy u (some b2) → Row u b2 t2 xs → wpAny P .any ops Q 1 #[true, true, true, false] A u := by
    intro u hg hr
    have R3u := R3'.grown hg (fun e => hne (by injection e))
    refine wpAny_all (rs := [3]) r5 (by simp) ?_
    intro i hi
    obtain rfl : i = 3 := by simpa using hi
    refine zEy i3 g3 T2 y1 z1 p3 b3 ys f3 f3' t3 ys2 R3u hl3 s2 one2 ?_
    intro u' hr' hg'
    rw [k3]
    exact wpAny_done r6 (h u u' (tog hg) hg' (hr.grown hg' (fun e => hne (by injection e with e; exact e.symm))) hr') _
  have mid : wpAny P .any ops Q 2 #[true, true, false, false] A W := by
    refine wpAny_all (rs := [2]) r3 (by simp) ?_
    intro i hi
    obtain rfl : i = 2 := by simpa using hi
    refine zEy i2 g2 T1 y0 z0 p2 b2 xs f2 f2' t2 xs2 R2' hl2 s1 one1 ?_
    intro u hr hg
    rw [k2]
    exact fin u hg hr
  have key : wpAny P .any ops Q 4 #[false, false, false, false] a W := by
    refine wpAny_all (rs := [0, 1]) r0 (by simp) ?_
    intro i hi
    simp only [List.mem_cons, List.not_mem_nil, or_false] at hi
    rcases hi with rfl | rfl
    · refine zEk i0 g0 T1 x0 p0 b0 e0 t0 xs R0' d1 hu1 hd1 s1 ?_
      refine wpAny_all (rs := [1, 2]) r1 (by simp) ?_
      intro i hi
      simp only [List.mem_cons, List.not_mem_nil, or_false] at hi
      rcases hi with rfl | rfl
      · refine zEk i1 g1 T2 x1 p1 b1 e1' t1 ys R1' d2 hu2 hd2 s2 ?_
        rw [q1]
        exact mid
      · refine zEy i2 g2 T1 y0 z0 p2 b2 xs j2 j2' t2 xs2 R2' hl2 s1 one1 ?_
        intro u hr hg
        rw [k1]
        have R1u := R1'.grown hg (fun e => hn1 (by injection e with e; exact e.symm))
        refine wpAny_all (rs := [1]) r4 (by simp) ?_
        intro i hi
        obtain rfl : i = 1 := by simpa using hi
        refine zEk i1 g1 T2 x1 p1 b1 e1' t1 ys R1u d2 hu2 hd2 s2 ?_
        rw [q1]
        exact fin u hg hr
    · refine zEk i1 g1 T2 x1 p1 b1 e1 t1 ys R1' d2 hu2 hd2 s2 ?_
      refine wpAny_all (rs := [0]) r2 (by simp) ?_
      intro i hi
      obtain rfl : i = 0 := by simpa using hi
      refine zEk i0 g0 T1 x0 p0 b0 e0' t0 xs R0' d1 hu1 hd1 s1 ?_
      rw [q2]
      exact mid
  refine wp_region_any hm ?_
  rw [hsz, ← hW]
  exact key
end
end
end Go.Proofs.YtgjepofinpmcpaaGreatDoor
