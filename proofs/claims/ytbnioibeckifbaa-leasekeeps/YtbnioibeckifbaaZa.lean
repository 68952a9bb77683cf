/- The walks over package lease: add; what a store does to a list of leases that was built. -/
import Derived.Test.YtbnioibeckifbaaZq
set_option linter.unusedVariables false
set_option linter.unusedSimpArgs false
namespace Go.Proofs.Ytbnioibeckifbaa
open Go.RowKit Oct Kvl

def addS (ys : List PEnt) (p : Nat) (x : PEnt) : List PEnt × Int × List Int := if 16 ≤ ys.length then (ys, 3, []) else (insL p x ys, 0, [])
theorem doT_new {l : List PEnt} {o : POp} {who now : Int} (h : getR o.2.1 l = none) (hk : o.1 = 5) : addS l (pos o.2.1 l) (o.2.1, [who, now + o.2.2.2.2]) = doT l o who now := by
  unfold addS doT insL
  rw [h]
  simp only
  rw [if_pos hk, put_new h]
theorem doT_miss {l : List PEnt} {o : POp} {who now : Int} (h : getR o.2.1 l = none) (hk : o.1 ≠ 5) : (l, 1, []) = doT l o who now := by
  unfold doT
  rw [h]
  simp only
  rw [if_neg hk]
theorem doT_hold {l : List PEnt} {o : POp} {who now : Int} {v : List Int} (h : getR o.2.1 l = some v) (hk : o.1 = 8) : (l, 0, tol v now) = doT l o who now := by
  unfold doT
  rw [h]
  simp only
  rw [if_pos hk]
theorem doT_held {l : List PEnt} {o : POp} {who now : Int} {v : List Int} (h : getR o.2.1 l = some v) (hk : o.1 ≠ 8) (hw : lo v ≠ who) : (l, 4, tol v now) = doT l o who now := by
  unfold doT
  rw [h]
  simp only
  rw [if_neg hk, if_pos hw]
theorem doT_del {l : List PEnt} {o : POp} {who now : Int} {v : List Int} (h : getR o.2.1 l = some v) (hk : o.1 ≠ 8) (hw : lo v = who) (h7 : o.1 = 7) : (l.take (pos o.2.1 l) ++ l.drop (pos o.2.1 l + 1), 0, []) = doT l o who now := by
  unfold doT
  rw [h]
  simp only
  rw [if_neg hk, if_neg (fun e => e hw), if_pos h7, del_old h]
theorem doT_set {l : List PEnt} {o : POp} {who now : Int} {v : List Int} (h : getR o.2.1 l = some v) (hk : o.1 ≠ 8) (hw : lo v = who) (h7 : o.1 ≠ 7) : (l.set (pos o.2.1 l) (o.2.1, [who, now + o.2.2.2.2]), 0, []) = doT l o who now := by
  unfold doT
  rw [h]
  simp only
  rw [if_neg hk, if_neg (fun e => e hw), if_neg h7, put_old h]

/-- A store elsewhere, in a block of another kind. -/
theorem LB.grownL {B : Nat} {w w' : World} {v : Value} {ys : List PEnt} {b : Nat} {t : TypeId} {xs : List Value} (h : LB OLea 50 3 B w v ys) (hr : Row w b t xs) (h1 : t ≠ 5) (h2 : t ≠ 50) (hg : w.grownBy w' (some b)) : LB OLea 50 3 B w' v ys := by
  obtain ⟨rows, r0, hown, hfr, hall⟩ := h
  have hne : v.ownBlock ≠ some b := fun e => by
    rcases hown.2 with ⟨rfl, _⟩ | ⟨g, cap, cur, rfl, _, hgg, _⟩
    · simp [Value.ownBlock] at e
    · simp [Value.ownBlock] at e
      subst e
      unfold Row at hr
      rw [hr] at hgg
      simp at hgg
      exact h2 hgg.2
  refine ⟨rows, r0, World.ownsRow.kept hown hg ?_, hfr, hall.mono fun q x hq => ?_⟩
  · cases hv : v.ownBlock with
    | none => exact .inl rfl
    | some k => exact .inr fun e => hne (hv.trans e)
  · obtain ⟨p, q, q', rfl, o1, o2⟩ := hq
    have mv : Mv (fun k => (B ≤ k ∧ v.ownBlock ≠ some k) ∧ k ≠ b) (fun k => B ≤ k ∧ v.ownBlock ≠ some k) w w' := fun k hk hlt => ⟨hg.block k hlt (fun e => hk.2 (by injection e)), hk.1⟩
    exact ⟨p, q, q', rfl, (o1.ne hr h1).mv mv, o2⟩
/-- The end of a call that gives leases and a result. -/
def Rs (B : Nat) (w : World) (x : List PEnt × Int × List Int) (e : Ending) (w' : World) : Prop :=
  ∃ v' vv, e = .returned (.tuple #[v', .agg #[.int .i64 x.2.1, vv]]) ∧ LB OLea 50 3 B w' v' x.1 ∧ OT (From B) w' vv x.2.2 ∧ Below B w w'

theorem flat_set3 {v a b c : Value} : ∀ {rows : List (List Value)} {p : Nat}, (∀ r ∈ rows, r.length = 3) → rows[p]? = some [a, b, c] → rows.flatten.set (p * 3 + 2) v = (rows.set p [a, b, v]).flatten
  | [], p, _, h => by simp at h
  | x :: rows, 0, h0, h => by
    simp at h
    subst h
    simp
  | x :: rows, p + 1, h0, h => by
    have hx := h0 x (by simp)
    have ih := flat_set3 (v := v) (a := a) (b := b) (c := c) (rows := rows) (p := p) (fun r hr => h0 r (by simp [hr])) (by simpa using h)
    rw [List.flatten_cons, List.set_cons_succ, List.flatten_cons, ← ih, List.set_append, if_neg (by omega), hx, show (p + 1) * 3 + 2 - 3 = p * 3 + 2 by omega]
/-- A lease's last slot is put anew. -/
theorem LB.set3 {B : Nat} {w w2 : World} {ys : List PEnt} {g cap p : Nat} {cur : List Value} {rows : List (List Value)} {a : Value} {p1 q1 q2 : Int} {x : PEnt} (h1 : Row w g 50 cur) (h2 : cur.length = cap * 3) (h3 : ys.length ≤ cap) (h4 : cap ≤ maxLen) (h5 : B ≤ g) (h6 : rows.length = ys.length) (h7 : ∀ r ∈ rows, r.length = 3) (h8 : cur.take (ys.length * 3) = rows.flatten)
    (h9 : All2 (OLea (fun b => B ≤ b ∧ b ≠ g) w) rows ys) (hp : ys[p]? = some x) (hr : rows[p]? = some [a, .int .i64 p1, .int .i64 q1]) (hg2 : w.grownBy w2 (some g)) (hr2 : Row w2 g 50 (cur.set (p * 3 + 2) (.int .i64 q2))) :
    LB OLea 50 3 B w2 (.slice (some ⟨g, 0, none⟩) ys.length cap) (ys.set p (x.1, [p1, q2])) := by
  have hmv : Mv (fun b => B ≤ b ∧ b ≠ g) (fun b => B ≤ b ∧ b ≠ g) w w2 := fun k hk hlt => ⟨hg2.block k hlt (fun e => by injection e with e; exact hk.2 e), hk⟩
  obtain ⟨a', b', c', e, o1, o2⟩ := h9.get hr hp
  injection e with e1 e
  subst e1
  refine LB.mkS hr2 (by rw [List.length_set]; exact h2) h3 h4 h5 (rows := rows.set p [a, .int .i64 p1, .int .i64 q2]) (by rw [List.length_set]; exact h6) (fun r hr => ?_) ?_ (All2.set (h9.mono fun q z hq => mov_olea _ _ _ _ _ _ hq hg2.size hmv) ⟨a, p1, q2, rfl, o1.mv hmv, rfl⟩)
  · rcases List.mem_or_eq_of_mem_set hr with hr | rfl
    · exact h7 r hr
    · rfl
  · rw [← flat_set3 h7 hr, ← h8, List.take_set]

set_option maxRecDepth 10000 in
set_option maxHeartbeats 4000000 in
/-- lease.add. -/
theorem addS_any (w : World) (v : Value) (B : Nat) (ys : List PEnt) (h : LB OLea 50 3 B w v ys) (hB : B ≤ w.heap.size) (hn : ys.length ≤ 64) (p : Nat) (hp : p ≤ ys.length) (r : List Value) (x : PEnt) (hx : RLea Any w r x) (hzx : szS x) :
    Calls Try.prog 46 #[v, .int .i64 (p : Int), .agg r.toArray] w (Rs B w (addS ys p x)) := by
  have hxall := hx
  obtain ⟨vn, p1, q1, rfl, rn, hx2⟩ := hx
  obtain ⟨an, cn, rfl, hcn⟩ := rn.form
  obtain ⟨w0, hw0⟩ : ∃ w0, w0 = (w.alloc (.cells #[.slice an x.1.length cn, .int .i64 p1, .int .i64 q1] 50)).alloc (.cells #[.int .i64 0, .slice none 0 0] 30) := ⟨_, rfl⟩
  have ra : Row w0 w.heap.size 50 [.slice an x.1.length cn, .int .i64 p1, .int .i64 q1] := by rw [hw0]; exact rowA (Row.new w 50 _) _
  have rr : Row w0 (w.heap.size + 1) 30 [.int .i64 0, .slice none 0 0] := by
    rw [hw0]
    have := Row.new (w.alloc (.cells #[.slice an x.1.length cn, .int .i64 p1, .int .i64 q1] 50)) 30 [.int .i64 0, .slice none 0 0]
    simpa using this
  have B0 : Below w.heap.size w w0 := by rw [hw0]; exact ((Below.refl _ w).alloc (Nat.le_refl _) _).alloc (by simp) _
  have hl0 := h.below mov_olea B0
  have hvlt := h.lt
  have hform : ∃ ao cap, v = .slice ao ys.length cap := by
    obtain ⟨ao, cap, e, _⟩ := (h.rl mov_olea).form
    exact ⟨ao, cap, e⟩
  by_cases h64 : 16 ≤ ys.length
  · rw [addS, if_pos h64]
    obtain ⟨ao, cap, rfl⟩ := hform
    have h64' : (16 : Int) ≤ ys.length := by omega
    go_enter Try.func46, Try.ntmps46
    go_upto_region 1 with fail
    rw [← hw0]
    clear hw0
    go_wp2_with (refine wl_store rfl _ _ _ rfl (w.heap.size + 1) [.int .i64 3, .slice none 0 0] rfl rfl _ _ rr rfl (by kernel_rfl) (one_res rfl) ?_; intro w5 hr5 hg5)
    refine bodyPost_ret (results_tc rfl _ _ (w.heap.size + 1) _ _ (0, 0) _ (by rfl) hr5.out Try.underlying30 rfl (by kernel_rfl)) rfl ?_
    exact ⟨_, _, rfl, hl0.grownL rr (by decide) (by decide) hg5, OT.nil _ _, (B0.mono hB).trans (grown_below hg5 (Nat.le_trans hB B0.size) (fun k hk => by cases hk; omega))⟩
  rw [addS, if_neg h64]
  have h64' : decide ((16 : Int) ≤ ys.length) = false := by simp; omega
  have hC := cloneLease_any w0 _ x (mov_lea _ _ _ _ _ _ hxall B0.size (Mv.below B0)) hzx
  have HL0 := (show Hid (LB OLea 50 3 B w0 v ys) from hl0)
  have HLT := (show Hid (∀ g, v.ownBlock = some g → g < w.heap.size) from hvlt)
  have HFR := (show Hid (∀ g, v.ownBlock = some g → B ≤ g) from h.fr)
  clear hl0 hvlt h
  have HI := (show Hid (∀ (u : World) (vb : Nat) (r : List Value), LB OLea 50 3 B u v ys → B ≤ u.heap.size → Row u vb 50 r → v.ownBlock ≠ some vb → OLea (fun b => B ≤ b ∧ v.ownBlock ≠ some b) u r x → Calls Try.prog 67 #[v, .int .i64 (p : Int), .slice (some ⟨vb, 0, none⟩) 1 1] u fun e w' => ∃ v', e = .returned v' ∧ LB OLea 50 3 B w' v' (insL p x ys) ∧ u.grownBy w' v.ownBlock) from fun u vb r h1 h2 h3 h4 h5 => insertS_any u v B ys h1 h2 hn p hp vb r h3 h4 x h5)
  obtain ⟨ao, cap, rfl⟩ := hform
  go_enter Try.func46, Try.ntmps46
  go_upto_region 1 with fail
  rw [← hw0]
  clear hw0
  go_wp2_with (first
    | (refine wl_load rfl _ _ rfl w.heap.size rfl _ _ ra _ Try.underlying50 rfl (by kernel_rfl) ?_)
    | (go_at_call 62; refine hC.mono ?_; rintro e w3 ⟨r3, rfl, o3, hb3⟩; obtain ⟨p3, q3, q3', rfl, t3, t4⟩ := o3; obtain ⟨ax3, cx3, rfl, hcx3⟩ := t3.rt.form))
  obtain ⟨w5, hw5⟩ : ∃ w5, w5 = w3.alloc (.cells #[.slice ax3 x.1.length cx3, .int .i64 q3, .int .i64 q3'] 50) := ⟨_, rfl⟩
  have n5 : Row w5 w3.heap.size 50 [.slice ax3 x.1.length cx3, .int .i64 q3, .int .i64 q3'] := by rw [hw5]; exact Row.new w3 _ _
  have b35 : Below w3.heap.size w3 w5 := by rw [hw5]; exact below_alloc _ _
  rw [← hw5]
  clear hw5
  have b05 := below_and hb3 (Nat.le_refl _) b35
  have bw5 := below_and B0 (Nat.le_refl _) b05
  have hmv : Mv (From w0.heap.size) (fun b => B ≤ b ∧ (Value.slice ao ys.length cap).ownBlock ≠ some b) w3 w5 := fun j hj hlt => ⟨b35.block j hlt, Nat.le_trans hB (Nat.le_trans B0.size hj), fun e => by
    have h1 := HLT.out j e
    have h2 := B0.size
    unfold From at hj
    omega⟩
  refine (HI.out w5 w3.heap.size _ (HL0.out.below mov_olea b05) (Nat.le_trans hB bw5.size) n5 (fun e => by
    have h1 := HLT.out _ e
    have h2 := (below_and B0 (Nat.le_refl _) hb3).size
    omega) ⟨_, _, _, rfl, t3.mv hmv, t4⟩).mono ?_
  rintro e w6 ⟨v6, rfl, hL6, hg6⟩
  have rr6 : Row w6 (w.heap.size + 1) 30 [.int .i64 0, .slice none 0 0] := (rr.below b05).grown hg6 (fun e => by have := HLT.out _ e; omega)
  go_wp2_with (refine wl_store rfl _ _ _ rfl (w.heap.size + 1) [.int .i64 0, .slice none 0 0] rfl rfl _ _ rr6 rfl (by kernel_rfl) (one_res rfl) ?_; intro w7 hr7 hg7)
  refine bodyPost_ret (results_tc rfl _ _ (w.heap.size + 1) _ _ (0, 0) _ (by rfl) hr7.out Try.underlying30 rfl (by kernel_rfl)) rfl ?_
  have b6 := (bw5.mono hB).trans (grown_below hg6 (Nat.le_trans hB bw5.size) (fun k hk => HFR.out k hk))
  exact ⟨_, _, rfl, hL6.grownL rr6 (by decide) (by decide) hg7, OT.nil _ _, b6.trans (grown_below hg7 (Nat.le_trans hB (Nat.le_trans bw5.size hg6.size)) (fun k hk => by cases hk; omega))⟩
end Go.Proofs.Ytbnioibeckifbaa
