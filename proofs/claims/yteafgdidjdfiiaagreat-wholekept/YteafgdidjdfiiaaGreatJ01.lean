/- The walks over package kv: what comes of an operation whose name is there, of a put whose name isn't. -/
import Derived.Test.YteafgdidjdfiiaaGreatXe
import Derived.Test.YteafgdidjdfiiaaGreatZg
import Derived.Test.YteafgdidjdfiiaaGreatW1
import Derived.Test.YteafgdidjdfiiaaGreatKj
section
set_option linter.unusedVariables false
set_option linter.unusedSimpArgs false
namespace Go.Proofs.YteafgdidjdfiiaaGreat
open Go.RowKit Oct Kvl

theorem withinN_any (w : World) (n a b : Int) : Calls Tryz.prog 43 #[.int .i64 n, .int .i64 a, .int .i64 b] w fun e w' => e = .returned (.bool (decide (a ≤ n ∧ n ≤ b))) ∧ w' = w := by
  by_cases h1 : a ≤ n
  · by_cases h2 : n ≤ b
    · rw [decide_eq_true ⟨h1, h2⟩]
      go_enter Tryz.func43, Tryz.ntmps43
      go_wp2_with fail
      go_ret
      exact ⟨rfl, rfl⟩
    · rw [decide_eq_false (fun h => h2 h.2)]
      have h2' : decide (n ≤ b) = false := by simp; omega
      go_enter Tryz.func43, Tryz.ntmps43
      go_wp2_with fail
      go_ret
      exact ⟨rfl, rfl⟩
  · rw [decide_eq_false (fun h => h1 h.1)]
    have h1' : decide (a ≤ n) = false := by simp; omega
    go_enter Tryz.func43, Tryz.ntmps43
    go_wp2_with fail
    go_ret
    exact ⟨rfl, rfl⟩
theorem isClientN_any (w : World) (n : Int) : Calls Tryz.prog 48 #[.int .i64 n] w fun e w' => e = .returned (.bool (decide (1 ≤ n ∧ n ≤ 4))) ∧ w' = w := by
  have hW := withinN_any w n 1 4
  generalize decide (1 ≤ n ∧ n ≤ 4) = d at hW ⊢
  go_enter Tryz.func48, Tryz.ntmps48
  go_wp2_with fail
  refine hW.mono ?_
  rintro e w1 ⟨rfl, rfl⟩
  go_wp2_with fail
  go_ret
  exact ⟨rfl, rfl⟩
theorem isStamp_any (w : World) (n : Int) : Calls Tryz.prog 49 #[.int .i64 n] w fun e w' => e = .returned (.bool (decide (1 ≤ n ∧ n ≤ 2147483647))) ∧ w' = w := by
  have hW := withinN_any w n 1 2147483647
  generalize decide (1 ≤ n ∧ n ≤ 2147483647) = d at hW ⊢
  go_enter Tryz.func49, Tryz.ntmps49
  go_wp2_with fail
  refine hW.mono ?_
  rintro e w1 ⟨rfl, rfl⟩
  go_wp2_with fail
  go_ret
  exact ⟨rfl, rfl⟩
set_option maxRecDepth 10000 in
theorem rightResult_any (w : World) (k : Int) (ao : Option Addr) (n cap : Nat) : Calls Tryz.prog 77 #[.agg #[.int .i64 k, .slice ao n cap]] w fun e w' => e = .returned (.bool (decide ((0 ≤ k ∧ k ≤ 6) ∧ n ≤ 64))) ∧ Below w.heap.size w w' := by
  have B0 := below_alloc w (.cells #[.int .i64 k, .slice ao n cap] 30)
  have c0 := (Row.new w 30 [.int .i64 k, .slice ao n cap]).cell (j := 0) rfl
  have c1 := (Row.new w 30 [.int .i64 k, .slice ao n cap]).cell (j := 1) rfl
  have hW := withinN_any (w.alloc (.cells #[.int .i64 k, .slice ao n cap] 30)) k 0 6
  by_cases hk : 0 ≤ k ∧ k ≤ 6
  · rw [decide_eq_true hk] at hW
    have HK := (show Hid (0 ≤ k ∧ k ≤ 6) from hk)
    clear hk
    by_cases hn : n ≤ 64
    · have hd : decide ((n : Int) ≤ 64) = true := by simp; omega
      have HR := (show Hid (n ≤ 64) from hn)
      clear hn
      go_enter Tryz.func77, Tryz.ntmps77
      go_wp2_with (go_at_call 43; refine hW.mono ?_; rintro e w2 ⟨rfl, rfl⟩)
      go_ret
      exact ⟨ret_bool (decide_eq_true ⟨HK.out, HR.out⟩).symm, B0⟩
    · have hd : decide ((n : Int) ≤ 64) = false := by simp; omega
      have HR := (show Hid (¬ n ≤ 64) from hn)
      clear hn
      go_enter Tryz.func77, Tryz.ntmps77
      go_wp2_with (go_at_call 43; refine hW.mono ?_; rintro e w2 ⟨rfl, rfl⟩)
      go_ret
      exact ⟨ret_bool (decide_eq_false fun h => HR.out h.2).symm, B0⟩
  · rw [decide_eq_false hk] at hW
    have HR := (show Hid (¬ (0 ≤ k ∧ k ≤ 6)) from hk)
    clear hk
    go_enter Tryz.func77, Tryz.ntmps77
    go_wp2_with (go_at_call 43; refine hW.mono ?_; rintro e w2 ⟨rfl, rfl⟩)
    go_ret
    exact ⟨ret_bool (decide_eq_false fun h => HR.out h.1).symm, B0⟩
end Go.Proofs.YteafgdidjdfiiaaGreat
end

section
namespace Go.Proofs.YteafgdidjdfiiaaGreat
open Go.RowKit Oct

/-- bytes.Equal. -/
theorem equalB_any (w : World) (u v : Value) (a b : List Int) (ha : Rd w u a) (hb : Rd w v b) :
    Calls Tryz.prog 108 #[u, v] w fun e w' => e = .returned (.bool (decide (a = b))) ∧ w' = w := by
  have h1 := run_str ha
  have h2 := run_str hb
  have h3 := str_eq ha.1 hb.1
  clear ha hb
  rw [← h3]
  clear h3
  go_enter Tryz.func108, Tryz.ntmps108
  go_wp2_with fail
  go_ret
  exact ⟨rfl, rfl⟩
end Go.Proofs.YteafgdidjdfiiaaGreat
end

section
set_option linter.unusedVariables false
set_option linter.unusedSimpArgs false
namespace Go.Proofs.YteafgdidjdfiiaaGreat
open Go.RowKit Oct Kvl

theorem results_tc {P : Program} {fn : Func} {p t : Tmp} {ty : TypeId} (h : fn.results = #[.tmp t, .cell p ty]) (tmps : Array Value) (w : World) (g : Nat) (tt : TypeId) (cs : Array Value) (fr : Nat × Nat) (d : TypeDesc)
    (hp : tmps.getD p undef = .pointer (some ⟨g, 0, none⟩)) (hg : w.heap[g]? = some (.cells cs tt fr))
    (hu : P.underlying ty = some d) (hd : (match d with | .struct _ | .array _ _ => true | _ => false) = true) (hi : (P.info? ty).map (·.size) = some cs.size) :
    (results fn tmps).run P w = .ok (.tuple #[tmps.getD t undef, .agg cs]) w := by
  have hp' : tmps[p]?.getD undef = .pointer (some ⟨g, 0, none⟩) := by simpa using hp
  simp [results, h, hp', asAddr, run_loadVar_row w g tt ty cs fr d hg hu hd hi]

theorem LB.opn {B : Nat} {w : World} {v : Value} {ys : List PEnt} (h : LB OEnt 73 2 B w v ys) (hp : 0 < ys.length) : ∃ (g cap : Nat) (cur : List Value) (rows : List (List Value)), v = .slice (some ⟨g, 0, none⟩) ys.length cap ∧ Row w g 73 cur ∧ cur.length = cap * 2 ∧ ys.length ≤ cap ∧ cap ≤ maxLen ∧ B ≤ g ∧ rows.length = ys.length ∧ (∀ r ∈ rows, r.length = 2) ∧ cur.take (ys.length * 2) = rows.flatten ∧ All2 (OEnt (fun b => B ≤ b ∧ b ≠ g) w) rows ys := by
  obtain ⟨rows, h0, hown, hfr, hall⟩ := h
  have hlen := hall.len
  rw [hlen] at hown
  rcases hown.2 with ⟨_, h4⟩ | ⟨g, cap, cur, rfl, _, hg, hc1, hc2, hc3, hc4⟩
  · omega
  · exact ⟨g, cap, cur.toList, rows, rfl, by unfold Row; simpa using hg, by simpa using hc3, hc1, hc2, hfr g rfl, hlen, h0, hc4, hall.mono fun q b hq => mov_oent _ _ _ _ _ _ hq (Nat.le_refl _) fun k hk _ => ⟨rfl, hk.1, fun e => hk.2 (by simp [Value.ownBlock, e])⟩⟩
theorem LB.mkE {B : Nat} {w : World} {ys : List PEnt} {g cap n : Nat} {cur : List Value} {rows : List (List Value)} (h1 : Row w g 73 cur) (h2 : cur.length = cap * 2) (h3 : n ≤ cap) (h4 : cap ≤ maxLen) (h5 : B ≤ g) (h6 : rows.length = n) (h7 : ∀ r ∈ rows, r.length = 2) (h8 : cur.take (n * 2) = rows.flatten)
    (h9 : All2 (OEnt (fun b => B ≤ b ∧ b ≠ g) w) rows ys) : LB OEnt 73 2 B w (.slice (some ⟨g, 0, none⟩) n cap) ys :=
  ⟨rows, h7, ⟨flat_len h7, .inr ⟨g, cap, cur.toArray, by rw [h6], Nat.zero_le _, h1, by omega, h4, by simpa using h2, by rw [h6]; simpa using h8⟩⟩, fr_at _ _ _ _ h5, h9.mono fun q b hq => mov_oent _ _ _ _ _ _ hq (Nat.le_refl _) fun k hk _ => ⟨rfl, hk.1, fun e => hk.2 (by simp [Value.ownBlock] at e; exact e.symm)⟩⟩

theorem flat_set {v a b : Value} : ∀ {rows : List (List Value)} {p : Nat}, (∀ r ∈ rows, r.length = 2) → rows[p]? = some [a, b] → rows.flatten.set (p * 2 + 1) v = (rows.set p [a, v]).flatten
  | [], p, _, h => by simp at h
  | x :: rows, 0, h0, h => by
    simp at h
    subst h
    simp
  | x :: rows, p + 1, h0, h => by
    have hx := h0 x (by simp)
    have ih := flat_set (v := v) (a := a) (b := b) (rows := rows) (p := p) (fun r hr => h0 r (by simp [hr])) (by simpa using h)
    rw [List.flatten_cons, List.set_cons_succ, List.flatten_cons, ← ih, List.set_append, if_neg (by omega), hx, show (p + 1) * 2 + 1 - 2 = p * 2 + 1 by omega]
theorem All2.set {α β : Type} {R : α → β → Prop} : ∀ {xs : List α} {zs : List β} {p : Nat} {x : α} {z : β}, All2 R xs zs → R x z → All2 R (xs.set p x) (zs.set p z)
  | [], [], _, _, _, _, _ => trivial
  | _ :: _, _ :: _, 0, _, _, h, hr => ⟨hr, h.2⟩
  | _ :: _, _ :: _, p + 1, _, _, h, hr => ⟨h.1, All2.set h.2 hr⟩
  | [], _ :: _, _, _, _, h, _ => h.elim
  | _ :: _, [], _, _, _, h, _ => h.elim

/-- An entry's value is put anew. -/
theorem LB.set2 {B : Nat} {w w1 w2 : World} {ys : List PEnt} {g cap p : Nat} {cur : List Value} {rows : List (List Value)} {a b vn : Value} {x : PEnt} {l : List Int} (h1 : Row w g 73 cur) (h2 : cur.length = cap * 2) (h3 : ys.length ≤ cap) (h4 : cap ≤ maxLen) (h5 : B ≤ g) (h6 : rows.length = ys.length) (h7 : ∀ r ∈ rows, r.length = 2) (h8 : cur.take (ys.length * 2) = rows.flatten)
    (h9 : All2 (OEnt (fun b => B ≤ b ∧ b ≠ g) w) rows ys) (hp : ys[p]? = some x) (hr : rows[p]? = some [a, b]) (hb1 : Below w.heap.size w w1) (hB : B ≤ w.heap.size) (hv : OT (From w.heap.size) w1 vn l) (hg2 : w1.grownBy w2 (some g)) (hr2 : Row w2 g 73 (cur.set (p * 2 + 1) vn)) :
    LB OEnt 73 2 B w2 (.slice (some ⟨g, 0, none⟩) ys.length cap) (ys.set p (x.1, l)) := by
  have hpl := (List.getElem?_eq_some_iff.1 hp).1
  have hgl := h1.lt
  have hmv : Mv (fun b => B ≤ b ∧ b ≠ g) (fun b => B ≤ b ∧ b ≠ g) w w2 := fun k hk hlt => ⟨(hg2.block k (Nat.lt_of_lt_of_le hlt hb1.size) (fun e => by injection e with e; exact hk.2 e)).trans (hb1.block k hlt), hk⟩
  have hsz := Nat.le_trans hb1.size hg2.size
  obtain ⟨a', b', e, o1, o2⟩ := h9.get hr hp
  injection e with e1 e
  subst e1
  refine LB.mkE hr2 (by rw [List.length_set]; exact h2) h3 h4 h5 (rows := rows.set p [a, vn]) (by rw [List.length_set]; exact h6) (fun r hr => ?_) ?_ (All2.set (h9.mono fun q z hq => mov_oent _ _ _ _ _ _ hq hsz hmv) ⟨a, vn, rfl, o1.mv hmv, hv.mv fun k hk hlt => ⟨hg2.block k hlt (fun e => ?_), Nat.le_trans hB hk, fun e => ?_⟩⟩)
  · rcases List.mem_or_eq_of_mem_set hr with hr | rfl
    · exact h7 r hr
    · rfl
  · rw [← flat_set h7 hr, ← h8, List.take_set]
  · injection e with e; unfold From at hk; omega
  · unfold From at hk; omega

theorem OT.ne {G : Nat → Prop} {w : World} {v : Value} {l : List Int} {b : Nat} {t : TypeId} {xs : List Value} (h : OT G w v l) (hr : Row w b t xs) (ht : t ≠ 5) : OT (fun k => G k ∧ k ≠ b) w v l := by
  refine ⟨h.1, h.2.1, fun k hk => ⟨h.2.2 k hk, fun e => ?_⟩⟩
  subst e
  rcases h.1.2 with ⟨rfl, _⟩ | ⟨g, cap, cur, rfl, _, hg, _⟩
  · simp [Value.ownBlock] at hk
  · simp [Value.ownBlock] at hk
    subst hk
    unfold Row at hr
    rw [hr] at hg
    simp at hg
    exact ht hg.2
/-- A store elsewhere, in a block of another kind. -/
theorem LB.grownR {B : Nat} {w w' : World} {v : Value} {ys : List PEnt} {b : Nat} {t : TypeId} {xs : List Value} (h : LB OEnt 73 2 B w v ys) (hr : Row w b t xs) (h1 : t ≠ 5) (h2 : t ≠ 73) (hg : w.grownBy w' (some b)) : LB OEnt 73 2 B w' v ys := by
  obtain ⟨rows, r0, hown, hfr, hall⟩ := h
  have hne : v.ownBlock ≠ some b := fun e => by
    rcases hown.2 with ⟨rfl, _⟩ | ⟨g, cap, cur, rfl, _, hgg, _⟩
    · simp [Value.ownBlock] at e
    · simp [Value.ownBlock] at e
      subst e
      unfold Row at hr
      rw [hr] at hgg
      simp at hgg
      exact h2 hgg.2
  refine ⟨rows, r0, World.ownsRow.kept hown hg ?_, hfr, hall.mono fun q x hq => ?_⟩
  · cases hv : v.ownBlock with
    | none => exact .inl rfl
    | some k => exact .inr fun e => hne (hv.trans e)
  · obtain ⟨p, q, rfl, o1, o2⟩ := hq
    have mv : Mv (fun k => (B ≤ k ∧ v.ownBlock ≠ some k) ∧ k ≠ b) (fun k => B ≤ k ∧ v.ownBlock ≠ some k) w w' := fun k hk hlt => ⟨hg.block k hlt (fun e => hk.2 (by injection e)), hk.1⟩
    exact ⟨p, q, rfl, (o1.ne hr h1).mv mv, (o2.ne hr h1).mv mv⟩

/-- What comes of an operation whose name is there: at p, with the name n and the value u. -/
def thereL (ys : List PEnt) (p : Nat) (n u : List Int) (o : POp) : List PEnt × Int × List Int :=
  if o.1 = 1 then (ys, 0, u) else if o.1 = 2 then (ys.set p (n, o.2.2.1), 0, []) else if o.1 = 3 then (if u = o.2.2.1 then (ys.set p (n, o.2.2.2.1), 0, []) else (ys, 2, u)) else (ys.take p ++ ys.drop (p + 1), 0, [])

/-- The end of a call that gives entries and a result. -/
def Rp (B : Nat) (w : World) (x : List PEnt × Int × List Int) (e : Ending) (w' : World) : Prop :=
  ∃ v' vv, e = .returned (.tuple #[v', .agg #[.int .i64 x.2.1, vv]]) ∧ LB OEnt 73 2 B w' v' x.1 ∧ OT (From B) w' vv x.2.2 ∧ Below B w w'

theorem one_res {c : Int} {v : Value} (h : v.oneCell' = true) : ∀ x ∈ [Value.int .i64 c, v], x.oneCell' = true := by
  intro x hx
  simp only [List.mem_cons, List.not_mem_nil, or_false] at hx
  rcases hx with rfl | rfl <;> first | rfl | assumption

set_option maxRecDepth 10000 in
set_option maxHeartbeats 4000000 in
/-- kv.doThere. -/
theorem doThere_any (w : World) (v : Value) (B : Nat) (ys : List PEnt) (h : LB OEnt 73 2 B w v ys) (hB : B ≤ w.heap.size) (hn : ys.length ≤ 64) (p : Nat) (n u : List Int) (hp : ys[p]? = some (n, u)) (hzu : szT u) (r : List Value) (o : POp) (ho : ROp Any w r o) (hzo : szO o) (hk1 : 1 ≤ o.1) (hk4 : o.1 ≤ 4) :
    Calls Tryz.prog 92 #[v, .int .i64 (p : Int), .agg r.toArray] w (Rp B w (thereL ys p n u o)) := by
  have hpl := (List.getElem?_eq_some_iff.1 hp).1
  obtain ⟨k, on, oa, ob, onum⟩ := o
  obtain ⟨vn, va, vb, rfl, rn, ra', rb'⟩ := ho
  obtain ⟨z1, z2, z3⟩ := hzo
  simp only at rn ra' rb' z1 z2 z3 hk1 hk4
  obtain ⟨w0, hw0⟩ : ∃ w0, w0 = (w.alloc (.cells #[.int .i64 k, vn, va, vb, .int .i64 onum] 127)).alloc (.cells #[.int .i64 0, .slice none 0 0] 30) := ⟨_, rfl⟩
  have ra : Row w0 w.heap.size 127 [.int .i64 k, vn, va, vb, .int .i64 onum] := by rw [hw0]; exact rowA (Row.new w 127 _) _
  have rr : Row w0 (w.heap.size + 1) 30 [.int .i64 0, .slice none 0 0] := by
    rw [hw0]
    have := Row.new (w.alloc (.cells #[.int .i64 k, vn, va, vb, .int .i64 onum] 127)) 30 [.int .i64 0, .slice none 0 0]
    simpa using this
  have B0 : Below w.heap.size w w0 := by rw [hw0]; exact ((Below.refl _ w).alloc (Nat.le_refl _) _).alloc (by simp) _
  have hs0 : w0.heap.size = w.heap.size + 2 := by rw [hw0]; simp
  have HS0 := (show Hid (w0.heap.size = w.heap.size + 2) from hs0)
  have hl0 := h.below mov_oent B0
  have hvlt := h.lt
  obtain ⟨g, cap, cur, rows, rfl, k1, k2, k3, k4, k5, k6, k7, k8, k9⟩ := hl0.opn (by omega)
  have hglt : g < w.heap.size := hvlt g rfl
  obtain ⟨rp, hrp⟩ : ∃ rp, rows[p]? = some rp := ⟨_, List.getElem?_eq_getElem (by omega)⟩
  obtain ⟨sa, sb, rfl, o1, o2⟩ := k9.get hrp hp
  have hcb : cur[p * 2 + 1]? = some sb := by
    have := flat_at (j := 1) k7 hrp (rfl : ([sa, sb] : List Value)[1]? = some sb)
    rw [← k8, List.getElem?_take] at this
    split at this
    · exact this
    · cases this
  have cb := k1.cell hcb
  have a0 := ra.cell (j := 0) rfl; have a2 := ra.cell (j := 2) rfl; have a3 := ra.cell (j := 3) rfl
  have hu0 := o2.rt.1
  have hA0 := (ra'.mv (Mv.below B0)).1
  have hB0 := (rb'.mv (Mv.below B0)).1
  have hpi : (p : Int) < (ys.length : Int) := by omega
  have hlen64 : (ys.length : Int) ≤ 64 := by omega
  have hset := fun {w1 w2 : World} {vn : Value} {l : List Int} (hb1 : Below w0.heap.size w0 w1) (hv : OT (From w0.heap.size) w1 vn l) (hg2 : w1.grownBy w2 (some g)) (hr2 : Row w2 g 73 (cur.set (p * 2 + 1) vn)) => LB.set2 k1 k2 k3 k4 k5 k6 k7 k8 k9 hp hrp hb1 (Nat.le_trans hB B0.size) hv hg2 hr2
  have HSET := (show Hid (∀ {w1 w2 : World} {vn : Value} {l : List Int}, Below w0.heap.size w0 w1 → OT (From w0.heap.size) w1 vn l → w1.grownBy w2 (some g) → Row w2 g 73 (cur.set (p * 2 + 1) vn) → LB OEnt 73 2 B w2 (.slice (some ⟨g, 0, none⟩) ys.length cap) (ys.set p (n, l))) from hset)
  have HL0 := (show Hid (LB OEnt 73 2 B w0 (.slice (some ⟨g, 0, none⟩) ys.length cap) ys) from hl0)
  clear hset hl0 h
  have hgne : ∀ b, (some (w.heap.size + b) : Option Nat) ≠ some g := fun b e => by injection e with e; omega
  have HGN := (show Hid (g < w.heap.size) from hglt)
  have hpc : p * 2 + 1 < cur.length := by omega
  have hone : ∀ z ∈ rows.flatten, z.oneCell' = true := by
    intro z hz
    obtain ⟨q, hq, hzq⟩ := List.mem_flatten.1 hz
    obtain ⟨j, hj, rfl⟩ := List.getElem_of_mem hq
    exact one_RE (k9.get (List.getElem?_eq_getElem hj) (List.getElem?_eq_getElem (by omega))).ent z hzq
  have fin : ∀ {w3 w4 : World} {v3 vv : Value} {l : List Int} {c : Int} {zs : List PEnt}, LB OEnt 73 2 B w0 vv zs → Below w0.heap.size w0 w3 → OT (From w0.heap.size) w3 v3 l → w3.grownBy w4 (some (w.heap.size + 1)) → Rp B w (zs, c, l) (.returned (.tuple #[vv, .agg #[.int .i64 c, v3]])) w4 := by
    intro w3 w4 v3 vv l c zs hL hb3 t3 hg4
    have b3 := below_and B0 (Nat.le_refl _) hb3
    have hsz := HS0.out
    exact ⟨_, _, rfl, (hL.below mov_oent hb3).grownR (rr.below hb3) (by decide) (by decide) hg4, t3.mv (Mv.from hg4 (by omega) (by omega)), (b3.mono hB).trans (grown_below hg4 (Nat.le_trans hB b3.size) (fun k hk => by cases hk; omega))⟩
  have fin2 : ∀ {w3 w4 w5 : World} {vv : Value} {c : Int} {zs : List PEnt}, LB OEnt 73 2 B w4 vv zs → Below w0.heap.size w0 w3 → w3.grownBy w4 (some g) → w4.grownBy w5 (some (w.heap.size + 1)) → Rp B w (zs, c, []) (.returned (.tuple #[vv, .agg #[.int .i64 c, .slice none 0 0]])) w5 := by
    intro w3 w4 w5 vv c zs hL hb3 hg4 hg5
    have b3 := (below_and B0 (Nat.le_refl _) hb3).mono hB
    have b4 := b3.trans (grown_below hg4 (Nat.le_trans hB (below_and B0 (Nat.le_refl _) hb3).size) (fun k hk => by cases hk; exact k5))
    have r4 := (rr.below hb3).grown hg4 (fun e => by injection e with e; have := HGN.out; omega)
    have hs4 : w.heap.size ≤ w4.heap.size := Nat.le_trans (below_and B0 (Nat.le_refl _) hb3).size hg4.size
    exact ⟨_, _, rfl, hL.grownR r4 (by decide) (by decide) hg5, OT.nil _ _, b4.trans (grown_below hg5 (Nat.le_trans hB hs4) (fun k hk => by cases hk; omega))⟩
  have HW0 := (show Hid (w0 = (w.alloc (.cells #[.int .i64 k, vn, va, vb, .int .i64 onum] 127)).alloc (.cells #[.int .i64 0, .slice none 0 0] 30)) from hw0)
  clear hw0 hs0
  by_cases q1 : k = 1
  · subst q1
    rw [thereL, if_pos rfl]
    have hC := clone_own w0 _ u hu0 (Nat.le_trans hzu (by decide))
    go_enter Tryz.func92, Tryz.ntmps92
    go_upto_region 1 with fail
    rw [← HW0.out]
    go_wp2_with (first
      | (go_at_call 54; refine hC.mono ?_; rintro e w3 ⟨v3, rfl, p3, f3, hb3⟩; have rr3 := rr.below hb3; have t3 := OT.own p3 hu0.1 f3; clear p3 f3; obtain ⟨ax3, cx3, rfl, hcx3⟩ := t3.rt.form)
      | (refine wl_store rfl _ _ _ rfl (w.heap.size + 1) [.int .i64 0, .slice ax3 u.length cx3] rfl rfl _ _ rr3 rfl (by kernel_rfl) (one_res t3.one) ?_; intro w4 hr4 hg4))
    refine bodyPost_ret (results_tc rfl _ _ (w.heap.size + 1) _ _ (0, 0) _ (by rfl) hr4.out Tryz.underlying30 rfl (by kernel_rfl)) rfl ?_
    exact fin HL0.out hb3 t3 hg4
  have b1 : (k == 1) = false := by simp [q1]
  by_cases q2 : k = 2
  · subst q2
    rw [thereL, if_neg (show ¬ (2 : Int) = 1 by decide), if_pos rfl]
    have hC := clone_own w0 _ oa hA0 (Nat.le_trans z2 (by decide))
    go_enter Tryz.func92, Tryz.ntmps92
    go_upto_region 1 with fail
    rw [← HW0.out]
    go_wp2_with (first
      | (go_at_call 54; refine hC.mono ?_; rintro e w3 ⟨v3, rfl, p3, f3, hb3⟩; have rr3 := rr.below hb3; have t3 := OT.own p3 hA0.1 f3; have kk3 := k1.below hb3)
      | (refine wl_set rfl _ _ _ rfl g (p * 2 + 1) _ rfl rfl _ _ kk3 hpc (by kernel_rfl) t3.one ?_; intro w4 hr4 hg4; have rr4 := rr3.grown hg4 (fun e => by injection e with e; omega))
      | (refine wl_store rfl _ _ _ rfl (w.heap.size + 1) [.int .i64 0, .slice none 0 0] rfl rfl _ _ rr4 rfl (by kernel_rfl) (one_res rfl) ?_; intro w5 hr5 hg5))
    refine bodyPost_ret (results_tc rfl _ _ (w.heap.size + 1) _ _ (0, 0) _ (by rfl) hr5.out Tryz.underlying30 rfl (by kernel_rfl)) rfl ?_
    exact fin2 (HSET.out hb3 t3 hg4 hr4.out) hb3 hg4 hg5
  have b2 : (k == 2) = false := by simp [q2]
  by_cases q3 : k = 3
  · subst q3
    by_cases hua : u = oa
    · rw [thereL, if_neg (show ¬ (3 : Int) = 1 by decide), if_neg (show ¬ (3 : Int) = 2 by decide), if_pos rfl, if_pos hua]
      have hE := equalB_any w0 _ _ u oa hu0 hA0
      rw [decide_eq_true hua] at hE
      have hC := clone_own w0 _ ob hB0 (Nat.le_trans z3 (by decide))
      clear hua
      go_enter Tryz.func92, Tryz.ntmps92
      go_upto_region 1 with fail
      rw [← HW0.out]
      go_wp2_with (first
        | (go_at_call 108; refine hE.mono ?_; rintro e w0 ⟨rfl, rfl⟩)
        | (go_at_call 54; refine hC.mono ?_; rintro e w3 ⟨v3, rfl, p3, f3, hb3⟩; have rr3 := rr.below hb3; have t3 := OT.own p3 hB0.1 f3; have kk3 := k1.below hb3)
        | (refine wl_set rfl _ _ _ rfl g (p * 2 + 1) _ rfl rfl _ _ kk3 hpc (by kernel_rfl) t3.one ?_; intro w4 hr4 hg4; have rr4 := rr3.grown hg4 (fun e => by injection e with e; omega))
        | (refine wl_store rfl _ _ _ rfl (w.heap.size + 1) [.int .i64 0, .slice none 0 0] rfl rfl _ _ rr4 rfl (by kernel_rfl) (one_res rfl) ?_; intro w5 hr5 hg5))
      refine bodyPost_ret (results_tc rfl _ _ (w.heap.size + 1) _ _ (0, 0) _ (by rfl) hr5.out Tryz.underlying30 rfl (by kernel_rfl)) rfl ?_
      exact fin2 (HSET.out hb3 t3 hg4 hr4.out) hb3 hg4 hg5
    · rw [thereL, if_neg (show ¬ (3 : Int) = 1 by decide), if_neg (show ¬ (3 : Int) = 2 by decide), if_pos rfl, if_neg hua]
      have hE := equalB_any w0 _ _ u oa hu0 hA0
      rw [decide_eq_false hua] at hE
      have hC := clone_own w0 _ u hu0 (Nat.le_trans hzu (by decide))
      clear hua
      go_enter Tryz.func92, Tryz.ntmps92
      go_upto_region 1 with fail
      rw [← HW0.out]
      go_wp2_with (first
        | (go_at_call 108; refine hE.mono ?_; rintro e w0 ⟨rfl, rfl⟩)
        | (go_at_call 54; refine hC.mono ?_; rintro e w3 ⟨v3, rfl, p3, f3, hb3⟩; have rr3 := rr.below hb3; have t3 := OT.own p3 hu0.1 f3; clear p3 f3; obtain ⟨ax3, cx3, rfl, hcx3⟩ := t3.rt.form)
        | (refine wl_store rfl _ _ _ rfl (w.heap.size + 1) [.int .i64 2, .slice ax3 u.length cx3] rfl rfl _ _ rr3 rfl (by kernel_rfl) (one_res t3.one) ?_; intro w4 hr4 hg4))
      refine bodyPost_ret (results_tc rfl _ _ (w.heap.size + 1) _ _ (0, 0) _ (by rfl) hr4.out Tryz.underlying30 rfl (by kernel_rfl)) rfl ?_
      exact fin HL0.out hb3 t3 hg4
  have b3 : (k == 3) = false := by simp [q3]
  obtain rfl : k = 4 := by omega
  rw [thereL, if_neg (show ¬ (4 : Int) = 1 by decide), if_neg (show ¬ (4 : Int) = 2 by decide), if_neg (show ¬ (4 : Int) = 3 by decide)]
  have hD := delete_any w0 g cap ys.length p cur rows.flatten k1 k2 (by rw [flat_len k7, k6]) k8 hpl k3 k4 hn hone
  go_enter Tryz.func92, Tryz.ntmps92
  go_upto_region 1 with fail
  rw [← HW0.out]
  go_wp2_with (first
    | (go_at_call 109; refine hD.mono ?_; rintro e w3 ⟨rfl, hg3, cur', d1, d2, d3⟩; have rr3 := rr.grown hg3 (fun e => by injection e with e; omega); have D1 := (show Hid (Row w3 g 73 cur' ∧ cur'.length = cap * 2 ∧ cur'.take ((ys.length - 1) * 2) = rows.flatten.take (p * 2) ++ rows.flatten.drop ((p + 1) * 2)) from ⟨d1, d2, d3⟩); clear d1 d2 d3)
    | (refine wl_store rfl _ _ _ rfl (w.heap.size + 1) [.int .i64 0, .slice none 0 0] rfl rfl _ _ rr3 rfl (by kernel_rfl) (one_res rfl) ?_; intro w5 hr5 hg5))
  refine bodyPost_ret (results_tc rfl _ _ (w.heap.size + 1) _ _ (0, 0) _ (by rfl) hr5.out Tryz.underlying30 rfl (by kernel_rfl)) rfl ?_
  obtain ⟨d1, d2, d3⟩ := D1.out
  refine fin2 ?_ (Below.refl _ _) hg3 hg5
  have hmv : Mv (fun b => B ≤ b ∧ b ≠ g) (fun b => B ≤ b ∧ b ≠ g) w0 w3 := fun j hj hlt => ⟨hg3.block j hlt (fun e => by injection e with e; exact hj.2 e), hj⟩
  refine LB.mkE d1 d2 (by omega) k4 k5 (rows := rows.take p ++ rows.drop (p + 1)) (by rw [List.length_append, List.length_take, List.length_drop]; omega) (fun q hq => ?_) ?_ (All2.app ((k9.take p).mono fun q b hq => mov_oent _ _ _ _ _ _ hq hg3.size hmv) ((k9.drop (p + 1)).mono fun q b hq => mov_oent _ _ _ _ _ _ hq hg3.size hmv))
  · rcases List.mem_append.1 hq with hq | hq
    · exact k7 q (List.mem_of_mem_take hq)
    · exact k7 q (List.mem_of_mem_drop hq)
  · rw [d3, flat_take k7 p (by omega), flat_drop k7 (p + 1) (by omega), List.flatten_append]
end Go.Proofs.YteafgdidjdfiiaaGreat
end
