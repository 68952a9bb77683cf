/- The walks over package lease: add; what a store does to a list of leases that was built. -/
import Derived.Test.YteafgdidjdfiiaaGreatJ07
import Derived.Test.YteafgdidjdfiiaaGreatJ08
import Derived.BigQuiet
section
set_option linter.unusedVariables false
set_option linter.unusedSimpArgs false
namespace Go.Proofs.YteafgdidjdfiiaaGreat
open Go.RowKit Oct Kvl

theorem LB.opnS {B : Nat} {w : World} {v : Value} {ys : List PEnt} (h : LB OLea 75 3 B w v ys) (hp : 0 < ys.length) : ∃ (g cap : Nat) (cur : List Value) (rows : List (List Value)), v = .slice (some ⟨g, 0, none⟩) ys.length cap ∧ Row w g 75 cur ∧ cur.length = cap * 3 ∧ ys.length ≤ cap ∧ cap ≤ maxLen ∧ B ≤ g ∧ rows.length = ys.length ∧ (∀ r ∈ rows, r.length = 3) ∧ cur.take (ys.length * 3) = rows.flatten ∧ All2 (OLea (fun b => B ≤ b ∧ b ≠ g) w) rows ys := by
  obtain ⟨rows, h0, hown, hfr, hall⟩ := h
  have hlen := hall.len
  rw [hlen] at hown
  rcases hown.2 with ⟨_, h4⟩ | ⟨g, cap, cur, rfl, _, hg, hc1, hc2, hc3, hc4⟩
  · omega
  · exact ⟨g, cap, cur.toList, rows, rfl, by unfold Row; simpa using hg, by simpa using hc3, hc1, hc2, hfr g rfl, hlen, h0, hc4, hall.mono fun q b hq => mov_olea _ _ _ _ _ _ hq (Nat.le_refl _) fun k hk _ => ⟨rfl, hk.1, fun e => hk.2 (by simp [Value.ownBlock, e])⟩⟩
theorem LB.mkS {B : Nat} {w : World} {ys : List PEnt} {g cap n : Nat} {cur : List Value} {rows : List (List Value)} (h1 : Row w g 75 cur) (h2 : cur.length = cap * 3) (h3 : n ≤ cap) (h4 : cap ≤ maxLen) (h5 : B ≤ g) (h6 : rows.length = n) (h7 : ∀ r ∈ rows, r.length = 3) (h8 : cur.take (n * 3) = rows.flatten)
    (h9 : All2 (OLea (fun b => B ≤ b ∧ b ≠ g) w) rows ys) : LB OLea 75 3 B w (.slice (some ⟨g, 0, none⟩) n cap) ys :=
  ⟨rows, h7, ⟨flat_len h7, .inr ⟨g, cap, cur.toArray, by rw [h6], Nat.zero_le _, h1, by omega, h4, by simpa using h2, by rw [h6]; simpa using h8⟩⟩, fr_at _ _ _ _ h5, h9.mono fun q b hq => mov_olea _ _ _ _ _ _ hq (Nat.le_refl _) fun k hk _ => ⟨rfl, hk.1, fun e => hk.2 (by simp [Value.ownBlock] at e; exact e.symm)⟩⟩
/-- What was built can be read. -/
theorem Rs.rl {B : Nat} {w : World} {v : Value} {ys : List PEnt} (h : LB OLea 75 3 B w v ys) : RL RLea 3 Any w v ys := (h.rl mov_olea).lea.mv mov_lea (Nat.le_refl _) Mv.any
theorem indexS_nil (w : World) (ao : Option Addr) (cap : Nat) (f : Value) : Calls Tryz.prog 112 #[.slice ao 0 cap, f] w fun e w' => e = .returned (.int .i64 (-1)) ∧ w' = w := by
  go_enter Tryz.func112, Tryz.ntmps112
  go_wp2_with fail
  refine wp_loop_rounds 1 ?_; rw [rounds_succ]
  go_wp2_with fail
  go_ret
  exact ⟨rfl, rfl⟩
/-- slices.DeleteFunc. -/
theorem deleteF_any (w : World) (v : Value) (B : Nat) (ys : List PEnt) (h : LB OLea 75 3 B w v ys) (hn : ys.length ≤ 64) (nb : Nat) (now : Int) (tn : TypeId) (hc : Row w nb tn [.int .i64 now]) (htn : tn ≠ 75) :
    Calls Tryz.prog 96 #[v, .func (.func 97) #[] #[.pointer (some ⟨nb, 0, none⟩)]] w fun e w' => ∃ v', e = .returned v' ∧ LB OLea 75 3 B w' v' (liv now ys) ∧ w.grownBy w' v.ownBlock := by
  rcases Nat.eq_zero_or_pos ys.length with h0 | hp
  · obtain rfl : ys = [] := List.eq_nil_of_length_eq_zero h0
    obtain ⟨ao, cap, rfl, _⟩ := (Rs.rl h).form
    have hI := indexS_nil w ao cap (.func (.func 97) #[] #[.pointer (some ⟨nb, 0, none⟩)])
    have HL := (show Hid (LB OLea 75 3 B w (.slice ao ([] : List PEnt).length cap) []) from h)
    clear h
    go_enter Tryz.func96, Tryz.ntmps96
    go_wp2_with fail
    refine hI.mono ?_
    rintro e w1 ⟨rfl, rfl⟩
    go_wp2_with fail
    go_ret
    exact ⟨_, rfl, HL.out, grown_refl _ _⟩
  · have hRL := Rs.rl h
    obtain ⟨g, cap, cur, rows, rfl, k1, k2, k3, k4, k5, k6, k7, k8, k9⟩ := h.opnS hp
    refine (deleteF_row w B g cap ys.length cur rows ys k1 k2 k7 k6 hp k8 k3 k4 hn k9 hRL nb now (hc.cell (j := 0) rfl) (hc.apart k1 htn)).mono ?_
    rintro e w' ⟨m, rfl, hg, hm, cur', r1, r2, r3, r4⟩
    refine ⟨_, rfl, LB.mkS r1 r2 (by omega) k4 k5 r3 (fun r hr => k7 r (List.mem_filter.1 hr).1) r4 ?_, hg⟩
    exact All2.filt (k9.mono fun q b hq => mov_olea _ (fun b => B ≤ b ∧ b ≠ g) _ _ _ _ hq hg.size fun k hk hlt => ⟨hg.block k hlt (fun e => hk.2 (Option.some.inj e)), hk⟩) (fun r y hr => lvr_lea hr)

set_option maxRecDepth 10000 in
/-- lease.told. -/
theorem told_any (w : World) (r : List Value) (x : PEnt) (h : RLea Any w r x) (now : Int) (h1 : 0 ≤ lo x.2) (h2 : lo x.2 ≤ 2147483647) (h3 : 0 ≤ lu x.2 - now) (h4 : lu x.2 - now ≤ 2147483647) :
    Calls Tryz.prog 100 #[.agg r.toArray, .int .i64 now] w fun e w' => ∃ v', e = .returned v' ∧ OT (From w.heap.size) w' v' (tol x.2 now) ∧ Below w.heap.size w w' := by
  have le := Nat.le_refl w.heap.size
  obtain ⟨a, p, q, rfl, ha, hx⟩ := h
  have hp : lo x.2 = p := by rw [hx]; rfl
  have hq : lu x.2 = q := by rw [hx]; rfl
  unfold tol
  rw [hp] at h1 h2 ⊢
  rw [hq] at h3 h4 ⊢
  obtain ⟨w0, hw0⟩ : ∃ w0, w0 = w.alloc (.cells #[a, .int .i64 p, .int .i64 q] 75) := ⟨_, rfl⟩
  have ra : Row w0 w.heap.size 75 [a, .int .i64 p, .int .i64 q] := by rw [hw0]; exact Row.new w _ _
  have B0 : Below w.heap.size w w0 := by rw [hw0]; exact below_alloc _ _
  have i1 := int_any w0 p
  have i2 := fun u => int_any u (q - now)
  rw [errI_yes h1 h2, outI_yes h1 h2] at i1
  rw [errI_yes h3 h4, outI_yes h3 h4] at i2
  have bp := enc_byt p (by omega) (by omega)
  have bq := enc_byt (q - now) (by omega) (by omega)
  have ep := enc_len p
  have eq := enc_len (q - now)
  have c1 := ra.cell (j := 1) rfl
  have hwr : IntKind.i64.wrap (q - now) = q - now := wrapN (by omega) (by omega)
  have I2 := (show Hid (∀ u : World, Calls Tryz.prog 25 #[.int .i64 (q - now)] u fun e w' => ∃ v, e = .returned (.tuple #[v, .int .i64 0]) ∧ Own w' 5 v (bc (enc (q - now))) ∧ Fr u.heap.size v ∧ Below u.heap.size u w') from i2)
  clear i2 hx hp hq
  generalize enc p = TP at *
  generalize enc (q - now) = TQ at *
  go_enter Tryz.func100, Tryz.ntmps100
  go_upto_region 1 with fail
  rw [← hw0]
  clear hw0
  go_upto_region 2 with (go_at_call 25; refine i1.mono ?_; rintro e w2 ⟨v2, rfl, p2, f2, hb2⟩)
  have B2 := below_and B0 le hb2
  have x2 := ra.below hb2
  have c2 := x2.cell (j := 2) rfl
  have p2 := p2.rd bp
  obtain ⟨ax2, cx2, rfl, hcx2⟩ := p2.form
  clear c1 i1
  go_upto_region 3 with (go_at_call 25; refine (I2.out _).mono ?_; rintro e w3 ⟨v3, rfl, p3, f3, hb3⟩)
  have B3 := below_and B2 le hb3
  have p3 := p3.rd bq
  have p2 := p2.below hb3
  obtain ⟨ax3, cx3, rfl, hcx3⟩ := p3.form
  have hba := below_alloc w3 (.cells ([.slice ax2 TP.length cx2, .slice ax3 TQ.length cx3] : List Value).toArray 28)
  have hR : Rdl (w3.alloc (.cells ([.slice ax2 TP.length cx2, .slice ax3 TQ.length cx3] : List Value).toArray 28)) (.slice (some ⟨w3.heap.size, 0, none⟩) 2 2) [TP, TQ] :=
    ⟨[.slice ax2 TP.length cx2, .slice ax3 TQ.length cx3], rdv_lit w3 _ _ (by simp) (by simp), p2.below hba, p3.below hba, trivial⟩
  have hC := concat_any _ _ _ hR (by simp) (by simp) (by simp only [List.flatten_cons, List.flatten_nil, List.length_append]; omega) (by simp only [List.flatten_cons, List.flatten_nil, List.length_append, List.length_nil]; omega)
  go_wp2_with (go_at_call 116; refine hC.mono ?_; rintro e w4 ⟨v4, rfl, p4, f4, hb4⟩)
  go_ret
  have hsum : [TP, TQ].flatten = TP ++ TQ := by simp
  rw [hsum] at p4
  have bb := below_and B3 le hba
  exact ⟨_, rfl, OT.own p4 (bp.app bq) (f4.mono bb.size), below_and bb le hb4⟩

set_option maxRecDepth 10000 in
/-- lease.canDo. -/
theorem canDo_any (w : World) (r : List Value) (o : POp) (h : ROp Any w r o) :
    Calls Tryz.prog 94 #[.agg r.toArray] w fun e w' => e = .returned (.bool (decide (wok o ∧ 5 ≤ o.1))) ∧ Below w.heap.size w w' := by
  have hall := h
  obtain ⟨vn, va, vb, rfl, hn, ha, hb⟩ := h
  obtain ⟨w0, hw0⟩ : ∃ w0, w0 = w.alloc (.cells #[.int .i64 o.1, vn, va, vb, .int .i64 o.2.2.2.2] 127) := ⟨_, rfl⟩
  have ra : Row w0 w.heap.size 127 [.int .i64 o.1, vn, va, vb, .int .i64 o.2.2.2.2] := by rw [hw0]; exact Row.new w 127 _
  have B0 : Below w.heap.size w w0 := by rw [hw0]; exact below_alloc _ _
  have hC := write_any w0 _ o (mov_op _ _ _ _ _ _ hall B0.size (Mv.below B0))
  unfold errW at hC
  by_cases hw : wok o
  · rw [if_pos hw] at hC
    rw [show decide (wok o ∧ 5 ≤ o.1) = decide (5 ≤ o.1) by simp [hw]]
    go_enter Tryz.func94, Tryz.ntmps94
    go_upto_region 1 with fail
    rw [← hw0]
    clear hw0
    go_wp2_with (first
      | (refine wl_load rfl _ _ rfl w.heap.size rfl _ _ ra _ Tryz.underlying127 rfl (by kernel_rfl) ?_)
      | (go_at_call 111; refine hC.mono ?_; rintro e w2 ⟨v2, rfl, _, _, hb2⟩; have c0 := (ra.below hb2).cell (j := 0) rfl))
    go_ret
    exact ⟨rfl, below_and B0 (Nat.le_refl _) hb2⟩
  · rw [if_neg hw] at hC
    rw [decide_eq_false (fun h => hw h.1)]
    go_enter Tryz.func94, Tryz.ntmps94
    go_upto_region 1 with fail
    rw [← hw0]
    clear hw0
    go_wp2_with (first
      | (refine wl_load rfl _ _ rfl w.heap.size rfl _ _ ra _ Tryz.underlying127 rfl (by kernel_rfl) ?_)
      | (go_at_call 111; refine hC.mono ?_; rintro e w2 ⟨v2, rfl, _, _, hb2⟩; have c0 := (ra.below hb2).cell (j := 0) rfl))
    go_ret
    exact ⟨rfl, below_and B0 (Nat.le_refl _) hb2⟩
end Go.Proofs.YteafgdidjdfiiaaGreat
end

section
set_option linter.unusedVariables false
set_option linter.unusedSimpArgs false
namespace Go.Proofs.YteafgdidjdfiiaaGreat
open Go.RowKit Oct Kvl

/-- The first that holds it. -/
theorem hol_at {l : List PEnt} {n : List Int} {now : Int} {q : Nat} {x : PEnt} (h : ∀ (j : Nat) (y : PEnt), j < q → l[j]? = some y → ¬ (now < lu y.2 ∧ y.1 = n)) (hx : l[q]? = some x) (h1 : now < lu x.2) (h2 : x.1 = n) : holS l n now = (lo x.2, IntKind.i64.wrap (lu x.2 - now)) := by
  have : (l.find? fun x => decide (now < lu x.2) && decide (x.1 = n)) = some x := by
    rw [List.find?_eq_some_iff_getElem]
    refine ⟨by simp [h1, h2], q, (List.getElem?_eq_some_iff.1 hx).1, (List.getElem?_eq_some_iff.1 hx).2, fun j hj => ?_⟩
    have := h j _ hj (List.getElem?_eq_getElem (by have := (List.getElem?_eq_some_iff.1 hx).1; omega))
    simp only [Bool.not_eq_true', Bool.and_eq_false_iff, decide_eq_false_iff_not]
    rcases Decidable.em (now < lu (l[j]'(by have := (List.getElem?_eq_some_iff.1 hx).1; omega)).2) with h3 | h3
    · exact .inr fun e => this ⟨h3, e⟩
    · exact .inl h3
  unfold holS
  rw [this]
theorem hol_no {l : List PEnt} {n : List Int} {now : Int} (h : ∀ (j : Nat) (y : PEnt), j < l.length → l[j]? = some y → ¬ (now < lu y.2 ∧ y.1 = n)) : holS l n now = (0, 0) := by
  have : (l.find? fun x => decide (now < lu x.2) && decide (x.1 = n)) = none := by
    rw [List.find?_eq_none]
    intro y hy
    obtain ⟨j, hj, rfl⟩ := List.getElem_of_mem hy
    have := h j _ hj (List.getElem?_eq_getElem hj)
    simpa using this
  unfold holS
  rw [this]
theorem ret_two {a b c d : Int} (h : (a, b) = (c, d)) : Ending.returned (.tuple #[.int .i64 c, .int .i64 d]) = .returned (.tuple #[.int .i64 a, .int .i64 b]) := by cases h; rfl

end Go.Proofs.YteafgdidjdfiiaaGreat
end

section
set_option linter.unusedVariables false
set_option linter.unusedSimpArgs false
namespace Go.Proofs.YteafgdidjdfiiaaGreat
open Go.RowKit Oct Kvl

def addS (ys : List PEnt) (p : Nat) (x : PEnt) : List PEnt × Int × List Int := if 16 ≤ ys.length then (ys, 3, []) else (insL p x ys, 0, [])
theorem doT_new {l : List PEnt} {o : POp} {who now : Int} (h : getR o.2.1 l = none) (hk : o.1 = 5) : addS l (pos o.2.1 l) (o.2.1, [who, now + o.2.2.2.2]) = doT l o who now := by
  unfold addS doT insL
  rw [h]
  simp only
  rw [if_pos hk, put_new h]
theorem doT_miss {l : List PEnt} {o : POp} {who now : Int} (h : getR o.2.1 l = none) (hk : o.1 ≠ 5) : (l, 1, []) = doT l o who now := by
  unfold doT
  rw [h]
  simp only
  rw [if_neg hk]
theorem doT_hold {l : List PEnt} {o : POp} {who now : Int} {v : List Int} (h : getR o.2.1 l = some v) (hk : o.1 = 8) : (l, 0, tol v now) = doT l o who now := by
  unfold doT
  rw [h]
  simp only
  rw [if_pos hk]
theorem doT_held {l : List PEnt} {o : POp} {who now : Int} {v : List Int} (h : getR o.2.1 l = some v) (hk : o.1 ≠ 8) (hw : lo v ≠ who) : (l, 4, tol v now) = doT l o who now := by
  unfold doT
  rw [h]
  simp only
  rw [if_neg hk, if_pos hw]
theorem doT_del {l : List PEnt} {o : POp} {who now : Int} {v : List Int} (h : getR o.2.1 l = some v) (hk : o.1 ≠ 8) (hw : lo v = who) (h7 : o.1 = 7) : (l.take (pos o.2.1 l) ++ l.drop (pos o.2.1 l + 1), 0, []) = doT l o who now := by
  unfold doT
  rw [h]
  simp only
  rw [if_neg hk, if_neg (fun e => e hw), if_pos h7, del_old h]
theorem doT_set {l : List PEnt} {o : POp} {who now : Int} {v : List Int} (h : getR o.2.1 l = some v) (hk : o.1 ≠ 8) (hw : lo v = who) (h7 : o.1 ≠ 7) : (l.set (pos o.2.1 l) (o.2.1, [who, now + o.2.2.2.2]), 0, []) = doT l o who now := by
  unfold doT
  rw [h]
  simp only
  rw [if_neg hk, if_neg (fun e => e hw), if_neg h7, put_old h]

/-- A store elsewhere, in a block of another kind. -/
theorem LB.grownL {B : Nat} {w w' : World} {v : Value} {ys : List PEnt} {b : Nat} {t : TypeId} {xs : List Value} (h : LB OLea 75 3 B w v ys) (hr : Row w b t xs) (h1 : t ≠ 5) (h2 : t ≠ 75) (hg : w.grownBy w' (some b)) : LB OLea 75 3 B w' v ys := by
  obtain ⟨rows, r0, hown, hfr, hall⟩ := h
  have hne : v.ownBlock ≠ some b := fun e => by
    rcases hown.2 with ⟨rfl, _⟩ | ⟨g, cap, cur, rfl, _, hgg, _⟩
    · simp [Value.ownBlock] at e
    · simp [Value.ownBlock] at e
      subst e
      unfold Row at hr
      rw [hr] at hgg
      simp at hgg
      exact h2 hgg.2
  refine ⟨rows, r0, World.ownsRow.kept hown hg ?_, hfr, hall.mono fun q x hq => ?_⟩
  · cases hv : v.ownBlock with
    | none => exact .inl rfl
    | some k => exact .inr fun e => hne (hv.trans e)
  · obtain ⟨p, q, q', rfl, o1, o2⟩ := hq
    have mv : Mv (fun k => (B ≤ k ∧ v.ownBlock ≠ some k) ∧ k ≠ b) (fun k => B ≤ k ∧ v.ownBlock ≠ some k) w w' := fun k hk hlt => ⟨hg.block k hlt (fun e => hk.2 (by injection e)), hk.1⟩
    exact ⟨p, q, q', rfl, (o1.ne hr h1).mv mv, o2⟩
/-- The end of a call that gives leases and a result. -/
def Rs (B : Nat) (w : World) (x : List PEnt × Int × List Int) (e : Ending) (w' : World) : Prop :=
  ∃ v' vv, e = .returned (.tuple #[v', .agg #[.int .i64 x.2.1, vv]]) ∧ LB OLea 75 3 B w' v' x.1 ∧ OT (From B) w' vv x.2.2 ∧ Below B w w'

theorem flat_set3 {v a b c : Value} : ∀ {rows : List (List Value)} {p : Nat}, (∀ r ∈ rows, r.length = 3) → rows[p]? = some [a, b, c] → rows.flatten.set (p * 3 + 2) v = (rows.set p [a, b, v]).flatten
  | [], p, _, h => by simp at h
  | x :: rows, 0, h0, h => by
    simp at h
    subst h
    simp
  | x :: rows, p + 1, h0, h => by
    have hx := h0 x (by simp)
    have ih := flat_set3 (v := v) (a := a) (b := b) (c := c) (rows := rows) (p := p) (fun r hr => h0 r (by simp [hr])) (by simpa using h)
    rw [List.flatten_cons, List.set_cons_succ, List.flatten_cons, ← ih, List.set_append, if_neg (by omega), hx, show (p + 1) * 3 + 2 - 3 = p * 3 + 2 by omega]
/-- A lease's last slot is put anew. -/
theorem LB.set3 {B : Nat} {w w2 : World} {ys : List PEnt} {g cap p : Nat} {cur : List Value} {rows : List (List Value)} {a : Value} {p1 q1 q2 : Int} {x : PEnt} (h1 : Row w g 75 cur) (h2 : cur.length = cap * 3) (h3 : ys.length ≤ cap) (h4 : cap ≤ maxLen) (h5 : B ≤ g) (h6 : rows.length = ys.length) (h7 : ∀ r ∈ rows, r.length = 3) (h8 : cur.take (ys.length * 3) = rows.flatten)
    (h9 : All2 (OLea (fun b => B ≤ b ∧ b ≠ g) w) rows ys) (hp : ys[p]? = some x) (hr : rows[p]? = some [a, .int .i64 p1, .int .i64 q1]) (hg2 : w.grownBy w2 (some g)) (hr2 : Row w2 g 75 (cur.set (p * 3 + 2) (.int .i64 q2))) :
    LB OLea 75 3 B w2 (.slice (some ⟨g, 0, none⟩) ys.length cap) (ys.set p (x.1, [p1, q2])) := by
  have hmv : Mv (fun b => B ≤ b ∧ b ≠ g) (fun b => B ≤ b ∧ b ≠ g) w w2 := fun k hk hlt => ⟨hg2.block k hlt (fun e => by injection e with e; exact hk.2 e), hk⟩
  obtain ⟨a', b', c', e, o1, o2⟩ := h9.get hr hp
  injection e with e1 e
  subst e1
  refine LB.mkS hr2 (by rw [List.length_set]; exact h2) h3 h4 h5 (rows := rows.set p [a, .int .i64 p1, .int .i64 q2]) (by rw [List.length_set]; exact h6) (fun r hr => ?_) ?_ (All2.set (h9.mono fun q z hq => mov_olea _ _ _ _ _ _ hq hg2.size hmv) ⟨a, p1, q2, rfl, o1.mv hmv, rfl⟩)
  · rcases List.mem_or_eq_of_mem_set hr with hr | rfl
    · exact h7 r hr
    · rfl
  · rw [← flat_set3 h7 hr, ← h8, List.take_set]

set_option maxRecDepth 10000 in
set_option maxHeartbeats 4000000 in
/-- lease.add. -/
theorem addS_any (w : World) (v : Value) (B : Nat) (ys : List PEnt) (h : LB OLea 75 3 B w v ys) (hB : B ≤ w.heap.size) (hn : ys.length ≤ 64) (p : Nat) (hp : p ≤ ys.length) (r : List Value) (x : PEnt) (hx : RLea Any w r x) (hzx : szS x) :
    Calls Tryz.prog 99 #[v, .int .i64 (p : Int), .agg r.toArray] w (Rs B w (addS ys p x)) := by
  have hxall := hx
  obtain ⟨vn, p1, q1, rfl, rn, hx2⟩ := hx
  obtain ⟨an, cn, rfl, hcn⟩ := rn.form
  obtain ⟨w0, hw0⟩ : ∃ w0, w0 = (w.alloc (.cells #[.slice an x.1.length cn, .int .i64 p1, .int .i64 q1] 75)).alloc (.cells #[.int .i64 0, .slice none 0 0] 30) := ⟨_, rfl⟩
  have ra : Row w0 w.heap.size 75 [.slice an x.1.length cn, .int .i64 p1, .int .i64 q1] := by rw [hw0]; exact rowA (Row.new w 75 _) _
  have rr : Row w0 (w.heap.size + 1) 30 [.int .i64 0, .slice none 0 0] := by
    rw [hw0]
    have := Row.new (w.alloc (.cells #[.slice an x.1.length cn, .int .i64 p1, .int .i64 q1] 75)) 30 [.int .i64 0, .slice none 0 0]
    simpa using this
  have B0 : Below w.heap.size w w0 := by rw [hw0]; exact ((Below.refl _ w).alloc (Nat.le_refl _) _).alloc (by simp) _
  have hl0 := h.below mov_olea B0
  have hvlt := h.lt
  have hform : ∃ ao cap, v = .slice ao ys.length cap := by
    obtain ⟨ao, cap, e, _⟩ := (h.rl mov_olea).form
    exact ⟨ao, cap, e⟩
  by_cases h64 : 16 ≤ ys.length
  · rw [addS, if_pos h64]
    obtain ⟨ao, cap, rfl⟩ := hform
    have h64' : (16 : Int) ≤ ys.length := by omega
    go_enter Tryz.func99, Tryz.ntmps99
    go_upto_region 1 with fail
    rw [← hw0]
    clear hw0
    go_wp2_with (refine wl_store rfl _ _ _ rfl (w.heap.size + 1) [.int .i64 3, .slice none 0 0] rfl rfl _ _ rr rfl (by kernel_rfl) (one_res rfl) ?_; intro w5 hr5 hg5)
    refine bodyPost_ret (results_tc rfl _ _ (w.heap.size + 1) _ _ (0, 0) _ (by rfl) hr5.out Tryz.underlying30 rfl (by kernel_rfl)) rfl ?_
    exact ⟨_, _, rfl, hl0.grownL rr (by decide) (by decide) hg5, OT.nil _ _, (B0.mono hB).trans (grown_below hg5 (Nat.le_trans hB B0.size) (fun k hk => by cases hk; omega))⟩
  rw [addS, if_neg h64]
  have h64' : decide ((16 : Int) ≤ ys.length) = false := by simp; omega
  have hC := cloneLease_any w0 _ x (mov_lea _ _ _ _ _ _ hxall B0.size (Mv.below B0)) hzx
  have HL0 := (show Hid (LB OLea 75 3 B w0 v ys) from hl0)
  have HLT := (show Hid (∀ g, v.ownBlock = some g → g < w.heap.size) from hvlt)
  have HFR := (show Hid (∀ g, v.ownBlock = some g → B ≤ g) from h.fr)
  clear hl0 hvlt h
  have HI := (show Hid (∀ (u : World) (vb : Nat) (r : List Value), LB OLea 75 3 B u v ys → B ≤ u.heap.size → Row u vb 75 r → v.ownBlock ≠ some vb → OLea (fun b => B ≤ b ∧ v.ownBlock ≠ some b) u r x → Calls Tryz.prog 115 #[v, .int .i64 (p : Int), .slice (some ⟨vb, 0, none⟩) 1 1] u fun e w' => ∃ v', e = .returned v' ∧ LB OLea 75 3 B w' v' (insL p x ys) ∧ u.grownBy w' v.ownBlock) from fun u vb r h1 h2 h3 h4 h5 => insertS_any u v B ys h1 h2 hn p hp vb r h3 h4 x h5)
  obtain ⟨ao, cap, rfl⟩ := hform
  go_enter Tryz.func99, Tryz.ntmps99
  go_upto_region 1 with fail
  rw [← hw0]
  clear hw0
  go_wp2_with (first
    | (refine wl_load rfl _ _ rfl w.heap.size rfl _ _ ra _ Tryz.underlying75 rfl (by kernel_rfl) ?_)
    | (go_at_call 71; refine hC.mono ?_; rintro e w3 ⟨r3, rfl, o3, hb3⟩; obtain ⟨p3, q3, q3', rfl, t3, t4⟩ := o3; obtain ⟨ax3, cx3, rfl, hcx3⟩ := t3.rt.form))
  obtain ⟨w5, hw5⟩ : ∃ w5, w5 = w3.alloc (.cells #[.slice ax3 x.1.length cx3, .int .i64 q3, .int .i64 q3'] 75) := ⟨_, rfl⟩
  have n5 : Row w5 w3.heap.size 75 [.slice ax3 x.1.length cx3, .int .i64 q3, .int .i64 q3'] := by rw [hw5]; exact Row.new w3 _ _
  have b35 : Below w3.heap.size w3 w5 := by rw [hw5]; exact below_alloc _ _
  rw [← hw5]
  clear hw5
  have b05 := below_and hb3 (Nat.le_refl _) b35
  have bw5 := below_and B0 (Nat.le_refl _) b05
  have hmv : Mv (From w0.heap.size) (fun b => B ≤ b ∧ (Value.slice ao ys.length cap).ownBlock ≠ some b) w3 w5 := fun j hj hlt => ⟨b35.block j hlt, Nat.le_trans hB (Nat.le_trans B0.size hj), fun e => by
    have h1 := HLT.out j e
    have h2 := B0.size
    unfold From at hj
    omega⟩
  refine (HI.out w5 w3.heap.size _ (HL0.out.below mov_olea b05) (Nat.le_trans hB bw5.size) n5 (fun e => by
    have h1 := HLT.out _ e
    have h2 := (below_and B0 (Nat.le_refl _) hb3).size
    omega) ⟨_, _, _, rfl, t3.mv hmv, t4⟩).mono ?_
  rintro e w6 ⟨v6, rfl, hL6, hg6⟩
  have rr6 : Row w6 (w.heap.size + 1) 30 [.int .i64 0, .slice none 0 0] := (rr.below b05).grown hg6 (fun e => by have := HLT.out _ e; omega)
  go_wp2_with (refine wl_store rfl _ _ _ rfl (w.heap.size + 1) [.int .i64 0, .slice none 0 0] rfl rfl _ _ rr6 rfl (by kernel_rfl) (one_res rfl) ?_; intro w7 hr7 hg7)
  refine bodyPost_ret (results_tc rfl _ _ (w.heap.size + 1) _ _ (0, 0) _ (by rfl) hr7.out Tryz.underlying30 rfl (by kernel_rfl)) rfl ?_
  have b6 := (bw5.mono hB).trans (grown_below hg6 (Nat.le_trans hB bw5.size) (fun k hk => HFR.out k hk))
  exact ⟨_, _, rfl, hL6.grownL rr6 (by decide) (by decide) hg7, OT.nil _ _, b6.trans (grown_below hg7 (Nat.le_trans hB (Nat.le_trans bw5.size hg6.size)) (fun k hk => by cases hk; omega))⟩
end Go.Proofs.YteafgdidjdfiiaaGreat
end
