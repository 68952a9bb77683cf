/- snap.readerOf, snap.Decode. (Made by mk10d.py.) -/
import Derived.Test.YtejkkhlblnepeaaU5
set_option linter.unusedVariables false
set_option linter.unusedSimpArgs false
namespace Go.Proofs.Ytejkkhlblnepeaa
open Go.RowKit Oct Kvl

theorem results_ctU {P : Program} {fn : Func} {p t : Tmp} {ty : TypeId} (h : fn.results = #[.cell p ty, .tmp t]) (tmps : Array Value) (w : World) (g : Nat) (tt : TypeId) (cs : Array Value) (fr : Nat × Nat) (d : TypeDesc)
    (hp : tmps.getD p undef = .pointer (some ⟨g, 0, none⟩)) (hg : w.heap[g]? = some (.cells cs tt fr))
    (hu : P.underlying ty = some d) (hd : (match d with | .struct _ | .array _ _ => true | _ => false) = true) (hi : (P.info? ty).map (·.size) = some cs.size) :
    (results fn tmps).run P w = .ok (.tuple #[.agg cs, tmps.getD t undef]) w := by
  have hp' : tmps[p]?.getD undef = .pointer (some ⟨g, 0, none⟩) := by simpa using hp
  simp [results, h, hp', asAddr, run_loadVar_row w g tt ty cs fr d hg hu hd hi]
def RdP (w : World) (bv : Value) (l : List Int) (e : Ending) (w' : World) : Prop :=
  ∃ k1 k3 k4 k5 k6, e = .returned (.agg #[.func (.func 47) #[] #[.pointer (some ⟨k1, 0, none⟩), .pointer (some ⟨k3, 0, none⟩), .pointer (some ⟨k5, 0, none⟩)], .func (.func 49) #[] #[.pointer (some ⟨k6, 0, none⟩), .pointer (some ⟨k4, 0, none⟩)], .func (.func 50) #[] #[.pointer (some ⟨k1, 0, none⟩), .pointer (some ⟨k3, 0, none⟩), .pointer (some ⟨k5, 0, none⟩)], .func (.func 52) #[] #[.pointer (some ⟨k4, 0, none⟩), .pointer (some ⟨k3, 0, none⟩), .pointer (some ⟨k1, 0, none⟩)]]) ∧ Rdr k1 k3 k4 k5 k6 w' bv l 0 false ∧ (w.heap.size ≤ k3 ∧ w.heap.size ≤ k4) ∧ Below w.heap.size w w'

set_option maxRecDepth 10000 in
set_option maxHeartbeats 2000000 in
theorem readerOf_any (w : World) (bv : Value) (l : List Int) (h : Rd w bv l) (hl : l.length ≤ 140737488355300) :
    Calls Try.prog 27 #[bv] w (RdP w bv l) := by
  obtain ⟨ab, cb, rfl, hcb⟩ := h.2.form
  rw [bc_len] at h
  rw [bc_len]
  have hmf : ∀ (fn : Fn) (first cap : Array Value) (w : World), (Instr.makeFunc fn first cap).run Try.prog w = .ok (.func fn first cap) w := fun _ _ _ _ => rfl
  obtain ⟨w1, hw1⟩ : ∃ w1, w1 = (((w.alloc (.cells #[.slice ab l.length cb] 29)).alloc (.cells #[.nilFunc, .nilFunc, .nilFunc, .nilFunc] 67)).alloc (.cells #[.int .i64 0] 3)).alloc (.cells #[.bool false] 4) := ⟨_, rfl⟩
  have r1 : Row w1 w.heap.size 29 [.slice ab l.length cb] := by rw [hw1]; exact rowA (rowA (rowA (Row.new w 29 _) _) _) _
  have r2 : Row w1 (w.heap.size + 1) 67 [.nilFunc, .nilFunc, .nilFunc, .nilFunc] := by
    rw [hw1]
    have := Row.new (w.alloc (.cells #[.slice ab l.length cb] 29)) 67 [.nilFunc, .nilFunc, .nilFunc, .nilFunc]
    exact rowA (rowA (by simpa using this) _) _
  have r3 : Row w1 (w.heap.size + 1 + 1) 3 [.int .i64 0] := by
    rw [hw1]
    have := Row.new ((w.alloc (.cells #[.slice ab l.length cb] 29)).alloc (.cells #[.nilFunc, .nilFunc, .nilFunc, .nilFunc] 67)) 3 [.int .i64 0]
    exact rowA (by simpa using this) _
  have r4 : Row w1 (w.heap.size + 1 + 1 + 1) 4 [.bool false] := by
    rw [hw1]
    have := Row.new (((w.alloc (.cells #[.slice ab l.length cb] 29)).alloc (.cells #[.nilFunc, .nilFunc, .nilFunc, .nilFunc] 67)).alloc (.cells #[.int .i64 0] 3)) 4 [.bool false]
    simpa using this
  have B1 : Below w.heap.size w w1 := by rw [hw1]; exact below_and (below_and (below_and (below_alloc _ _) (Nat.le_refl _) (below_alloc _ _)) (Nat.le_refl _) (below_alloc _ _)) (Nat.le_refl _) (below_alloc _ _)
  have hlt : l ≠ [] → ∀ k, (Value.slice ab l.length cb).ownBlock = some k → k < w.heap.size := fun hx k hk => h.lt hx k hk
  go_enter Try.func27, Try.ntmps27
  go_upto_region 2 with fail
  rw [← hw1]
  clear hw1
  obtain ⟨k4, hk4⟩ : ∃ k4, k4 = w.heap.size + 1 + 1 + 1 := ⟨_, rfl⟩
  obtain ⟨k3, hk3⟩ : ∃ k3, k3 = w.heap.size + 1 + 1 := ⟨_, rfl⟩
  obtain ⟨k2, hk2⟩ : ∃ k2, k2 = w.heap.size + 1 := ⟨_, rfl⟩
  obtain ⟨k1, hk1⟩ : ∃ k1, k1 = w.heap.size := ⟨_, rfl⟩
  have r1 : Row w1 k1 29 [.slice ab l.length cb] := by rw [hk1]; exact r1
  rw [← hk4] at r4 ⊢
  rw [← hk3] at r3 ⊢
  rw [← hk2] at r2 ⊢
  rw [← hk1]
  have HK := (show Hid (w.heap.size ≤ k3 ∧ w.heap.size ≤ k4) by show _ ∧ _; omega)
  have h2 : k2 < w1.heap.size := r2.lt
  have HK2 := (show Hid (w.heap.size ≤ k2) by show _ ≤ _; omega)
  have HN := (show Hid (∀ u, Below w.heap.size w u → RT (fun k => k ≠ k3 ∧ k ≠ k4) u (.slice ab l.length cb) l) from fun u hu => ⟨h.below hu, fun hx k hk => by have := hlt hx k hk; omega⟩)
  clear hk1 hk2 hk3 hk4 hlt
  have row5 := Row.new w1 87 [.nilFunc]
  go_upto_region 3 with (refine wl_set rfl _ _ _ rfl w1.heap.size 0 _ rfl rfl _ _ row5 (show 0 < 1 by decide) (by kernel_rfl) rfl ?_; intro w2 hr2 hg2)
  have r5 : Row w2 w1.heap.size 87 [.func (.func 46) #[] #[.pointer (some ⟨k3, 0, none⟩), .pointer (some ⟨k4, 0, none⟩)]] := hr2.out
  have hb2 : Below w1.heap.size w1 w2 := (below_alloc w1 (.cells ([.nilFunc] : List Value).toArray 87)).trans (grown_below hg2 (by simp) (fun k hk => by cases hk; exact Nat.le_refl _))
  obtain ⟨k5, hk5⟩ : ∃ k5, k5 = w1.heap.size := ⟨_, rfl⟩
  have n25 : k2 ≠ k5 := by omega
  have r5 : Row w2 k5 87 [.func (.func 46) #[] #[.pointer (some ⟨k3, 0, none⟩), .pointer (some ⟨k4, 0, none⟩)]] := by rw [hk5]; exact r5
  rw [← hk5]
  clear row5 hr2 hg2 hk5
  have row6 := Row.new w2 63 [.nilFunc]
  have h2' : k2 < w2.heap.size := Nat.lt_of_lt_of_le h2 hb2.size
  go_upto_region 4 with (refine wl_set rfl _ _ _ rfl w2.heap.size 0 _ rfl rfl _ _ row6 (show 0 < 1 by decide) (by kernel_rfl) rfl ?_; intro w3 hr3 hg3)
  have r6 : Row w3 w2.heap.size 63 [.func (.func 47) #[] #[.pointer (some ⟨k1, 0, none⟩), .pointer (some ⟨k3, 0, none⟩), .pointer (some ⟨k5, 0, none⟩)]] := hr3.out
  have hb3 : Below w2.heap.size w2 w3 := (below_alloc w2 (.cells ([.nilFunc] : List Value).toArray 63)).trans (grown_below hg3 (by simp) (fun k hk => by cases hk; exact Nat.le_refl _))
  obtain ⟨k6, hk6⟩ : ∃ k6, k6 = w2.heap.size := ⟨_, rfl⟩
  have r6 : Row w3 k6 63 [.func (.func 47) #[] #[.pointer (some ⟨k1, 0, none⟩), .pointer (some ⟨k3, 0, none⟩), .pointer (some ⟨k5, 0, none⟩)]] := by rw [hk6]; exact r6
  rw [← hk6]
  have hb13 := below_and hb2 (Nat.le_refl _) hb3
  have B3 := below_and B1 (Nat.le_refl _) hb13
  have hR : Rdr k1 k3 k4 k5 k6 w3 (.slice ab l.length cb) l 0 false := ⟨r1.below hb13, r3.below hb13, r4.below hb13, r5.below hb3, r6, HN.out w3 B3, Nat.zero_le _, hl⟩
  have s2 := r2.below hb13
  have c6 := r6.cell (j := 0) rfl
  have n26 : k2 ≠ k6 := by omega
  have n23 := s2.apart hR.r3 (by decide)
  have n24 := s2.apart hR.r4 (by decide)
  have n21 := s2.apart hR.r1 (by decide)
  clear row6 hr3 hg3 hk6 r1 r2 r3 r4 r5 r6 hb2 hb3 hb13 B1
  have hone : ∀ x ∈ ([.func (.func 47) #[] #[.pointer (some ⟨k1, 0, none⟩), .pointer (some ⟨k3, 0, none⟩), .pointer (some ⟨k5, 0, none⟩)], .func (.func 49) #[] #[.pointer (some ⟨k6, 0, none⟩), .pointer (some ⟨k4, 0, none⟩)], .func (.func 50) #[] #[.pointer (some ⟨k1, 0, none⟩), .pointer (some ⟨k3, 0, none⟩), .pointer (some ⟨k5, 0, none⟩)], .func (.func 52) #[] #[.pointer (some ⟨k4, 0, none⟩), .pointer (some ⟨k3, 0, none⟩), .pointer (some ⟨k1, 0, none⟩)]] : List Value), x.oneCell' = true := by
    intro x hx
    simp only [List.mem_cons, List.not_mem_nil, or_false] at hx
    rcases hx with rfl | rfl | rfl | rfl <;> rfl
  go_wp2_with (refine wl_store rfl _ _ _ rfl k2 [.func (.func 47) #[] #[.pointer (some ⟨k1, 0, none⟩), .pointer (some ⟨k3, 0, none⟩), .pointer (some ⟨k5, 0, none⟩)], .func (.func 49) #[] #[.pointer (some ⟨k6, 0, none⟩), .pointer (some ⟨k4, 0, none⟩)], .func (.func 50) #[] #[.pointer (some ⟨k1, 0, none⟩), .pointer (some ⟨k3, 0, none⟩), .pointer (some ⟨k5, 0, none⟩)], .func (.func 52) #[] #[.pointer (some ⟨k4, 0, none⟩), .pointer (some ⟨k3, 0, none⟩), .pointer (some ⟨k1, 0, none⟩)]] rfl rfl _ _ s2 rfl (by kernel_rfl) hone ?_; intro w4 hr4 hg4)
  refine bodyPost_ret (v := .agg ([.func (.func 47) #[] #[.pointer (some ⟨k1, 0, none⟩), .pointer (some ⟨k3, 0, none⟩), .pointer (some ⟨k5, 0, none⟩)], .func (.func 49) #[] #[.pointer (some ⟨k6, 0, none⟩), .pointer (some ⟨k4, 0, none⟩)], .func (.func 50) #[] #[.pointer (some ⟨k1, 0, none⟩), .pointer (some ⟨k3, 0, none⟩), .pointer (some ⟨k5, 0, none⟩)], .func (.func 52) #[] #[.pointer (some ⟨k4, 0, none⟩), .pointer (some ⟨k3, 0, none⟩), .pointer (some ⟨k1, 0, none⟩)]] : List Value).toArray) (results_cell_row rfl _ _ k2 _ _ (0, 0) _ (by rfl) hr4.out Try.underlying67 rfl (by kernel_rfl)) rfl ?_
  have hlt2 : l ≠ [] → (Value.slice ab l.length cb).ownBlock ≠ some k2 := fun hx e => by have := h.lt hx _ e; have := HK2.out; omega
  exact ⟨k1, k3, k4, k5, k6, rfl, hR.grown hg4 ⟨n21, n23, n24, n25, n26⟩ hlt2, HK.out, B3.trans (grown_below hg4 B3.size (fun k hk => by cases hk; exact HK2.out))⟩

/-- What Decode answers. -/
def dcA (l : List Int) : PApp := (decA l).getD (0, [], [], [])
def dcE (l : List Int) : Int := if (decA l).isSome then 0 else 101
def DcP (w : World) (l : List Int) (e : Ending) (w' : World) : Prop :=
  ∃ row, e = .returned (.tuple #[.agg row.toArray, .int .i64 (dcE l)]) ∧ OApp w.heap.size w' row (dcA l) ∧ Below w.heap.size w w'
theorem LB.apartU {α : Type} {R : (Nat → Prop) → World → List Value → α → Prop} {T : TypeId} {k B : Nat} {w : World} {v : Value} {ys : List α} (h : LB R T k B w v ys) {j : Nat} {t : TypeId} {xs : List Value} (hr : Row w j t xs) (ht : t ≠ T) : v.ownBlock ≠ some j := fun e => by
  obtain ⟨rows, r0, hown, hfr, hall⟩ := h
  rcases hown.2 with ⟨rfl, _⟩ | ⟨g, cap, cur, rfl, _, hgg, _⟩
  · simp [Value.ownBlock] at e
  · simp [Value.ownBlock] at e
    subst e
    unfold Row at hr
    rw [hr] at hgg
    simp at hgg
    exact ht hgg.2
theorem LB.gr {R : (Nat → Prop) → World → List Value → PEnt → Prop} (hR : ∀ (G : Nat → Prop) (w : World) (r : List Value) (x : PEnt) (b : Nat) (t : TypeId) (xs : List Value), R G w r x → Row w b t xs → t ≠ 5 → R (fun k => G k ∧ k ≠ b) w r x) (hM : Mov R) {T : TypeId} {k B b : Nat} {w w' : World} {v : Value} {ys : List PEnt} {t : TypeId} {xs : List Value} (h : LB R T k B w v ys) (hg : w.grownBy w' (some b)) (hr : Row w b t xs) (h1 : t ≠ 5) (h2 : t ≠ T) : LB R T k B w' v ys := by
  have hne := h.apartU hr h2
  obtain ⟨rows, r0, hown, hfr, hall⟩ := h
  refine ⟨rows, r0, World.ownsRow.kept hown hg ?_, hfr, hall.mono fun q x hq => ?_⟩
  · cases hv : v.ownBlock with
    | none => exact .inl rfl
    | some k => exact .inr fun e => hne (hv.trans e)
  · exact hM _ _ _ _ _ _ (hR _ _ _ _ _ _ _ hq hr h1) hg.size (fun k hk hlt => ⟨hg.block k hlt (fun e => hk.2 (by injection e)), hk.1⟩)
theorem OApp.gr {B : Nat} {w w' : World} {r : List Value} {a : PApp} (h : OApp B w r a) {b : Nat} {xs : List Value} (hg : w.grownBy w' (some b)) (hr : Row w b 27 xs) : OApp B w' r a := by
  obtain ⟨ve, vl, vs, e, h1, h2, h3⟩ := h
  refine ⟨ve, vl, vs, e, h1.gr (fun G w r x b t xs hq hr ht => ?_) mov_oent hg hr (by decide) (by decide), h2.gr (fun G w r x b t xs hq hr ht => ?_) mov_olea hg hr (by decide) (by decide), h3.gr (fun G w r x b t xs hq hr ht => ?_) mov_oses hg hr (by decide) (by decide)⟩
  · obtain ⟨a, b, rfl, o1, o2⟩ := hq
    exact ⟨a, b, rfl, o1.ne hr ht, o2.ne hr ht⟩
  · obtain ⟨a, p, q, rfl, o1, o2⟩ := hq
    exact ⟨a, p, q, rfl, o1.ne hr ht, o2⟩
  · obtain ⟨c, d, k, a, t, rfl, o1, o2⟩ := hq
    exact ⟨c, d, k, a, t, rfl, o1.ne hr ht, o2⟩
theorem OApp.zero (B : Nat) (w : World) : OApp B w [.int .i64 0, .slice none 0 0, .slice none 0 0, .slice none 0 0] (0, [], [], []) := ⟨_, _, _, rfl, LB.nil _ _ _ _ _, LB.nil _ _ _ _ _, LB.nil _ _ _ _ _⟩
theorem LB.fm {α : Type} {R : (Nat → Prop) → World → List Value → α → Prop} (hR : Mov R) {T : TypeId} {k B : Nat} {w : World} {v : Value} {ys : List α} (h : LB R T k B w v ys) : ∃ ao cap, v = .slice ao ys.length cap := by
  obtain ⟨ao, cap, e, _⟩ := (h.rl hR).form
  exact ⟨ao, cap, e⟩

set_option maxRecDepth 10000 in
set_option maxHeartbeats 4000000 in
/-- snap.Decode. -/
theorem snapDecode_any (w : World) (bv : Value) (l : List Int) (h : Rd w bv l) (hl : l.length ≤ 140737488355300) :
    Calls Try.prog 12 #[bv] w (DcP w l) := by
  have le := Nat.le_refl w.heap.size
  have hmf : ∀ (fn : Fn) (first cap : Array Value) (w : World), (Instr.makeFunc fn first cap).run Try.prog w = .ok (.func fn first cap) w := fun _ _ _ _ => rfl
  obtain ⟨w0, hw0⟩ : ∃ w0, w0 = w.alloc (.cells #[.int .i64 0, .slice none 0 0, .slice none 0 0, .slice none 0 0] 27) := ⟨_, rfl⟩
  have s0 : Row w0 w.heap.size 27 [.int .i64 0, .slice none 0 0, .slice none 0 0, .slice none 0 0] := by rw [hw0]; exact Row.new w 27 _
  have B0 : Below w.heap.size w w0 := by rw [hw0]; exact below_alloc _ _
  have hC := readerOf_any w0 bv l (h.below B0) hl
  go_enter Try.func12, Try.ntmps12
  go_upto_region 1 with fail
  rw [← hw0]
  clear hw0
  obtain ⟨sb, hsb⟩ : ∃ sb, sb = w.heap.size := ⟨_, rfl⟩
  have s0 : Row w0 sb 27 [.int .i64 0, .slice none 0 0, .slice none 0 0, .slice none 0 0] := by rw [hsb]; exact s0
  rw [← hsb]
  have HS := (show Hid (w.heap.size ≤ sb) by show _ ≤ _; omega)
  clear hsb
  go_upto_region 2 with (first
    | (go_at_call 27; refine hC.mono ?_; rintro e w1 ⟨k1, k3, k4, k5, k6, rfl, hR, hkk, hb1⟩; have rowr := Row.new w1 67 [.nilFunc, .nilFunc, .nilFunc, .nilFunc]; have hone : ∀ x ∈ ([.func (.func 47) #[] #[.pointer (some ⟨k1, 0, none⟩), .pointer (some ⟨k3, 0, none⟩), .pointer (some ⟨k5, 0, none⟩)], .func (.func 49) #[] #[.pointer (some ⟨k6, 0, none⟩), .pointer (some ⟨k4, 0, none⟩)], .func (.func 50) #[] #[.pointer (some ⟨k1, 0, none⟩), .pointer (some ⟨k3, 0, none⟩), .pointer (some ⟨k5, 0, none⟩)], .func (.func 52) #[] #[.pointer (some ⟨k4, 0, none⟩), .pointer (some ⟨k3, 0, none⟩), .pointer (some ⟨k1, 0, none⟩)]] : List Value), x.oneCell' = true := by (intro x hx; simp only [List.mem_cons, List.not_mem_nil, or_false] at hx; rcases hx with rfl | rfl | rfl | rfl <;> rfl))
    | (refine wl_store rfl _ _ _ rfl w1.heap.size [.func (.func 47) #[] #[.pointer (some ⟨k1, 0, none⟩), .pointer (some ⟨k3, 0, none⟩), .pointer (some ⟨k5, 0, none⟩)], .func (.func 49) #[] #[.pointer (some ⟨k6, 0, none⟩), .pointer (some ⟨k4, 0, none⟩)], .func (.func 50) #[] #[.pointer (some ⟨k1, 0, none⟩), .pointer (some ⟨k3, 0, none⟩), .pointer (some ⟨k5, 0, none⟩)], .func (.func 52) #[] #[.pointer (some ⟨k4, 0, none⟩), .pointer (some ⟨k3, 0, none⟩), .pointer (some ⟨k1, 0, none⟩)]] rfl rfl _ _ rowr rfl (by kernel_rfl) hone ?_; intro w2 hr2 hg2))
  have hb2 : Below w1.heap.size w1 w2 := (below_alloc w1 (.cells ([.nilFunc, .nilFunc, .nilFunc, .nilFunc] : List Value).toArray 67)).trans (grown_below hg2 (by simp) (fun k hk => by cases hk; exact Nat.le_refl _))
  have q2 : Row w2 w1.heap.size 67 [.func (.func 47) #[] #[.pointer (some ⟨k1, 0, none⟩), .pointer (some ⟨k3, 0, none⟩), .pointer (some ⟨k5, 0, none⟩)], .func (.func 49) #[] #[.pointer (some ⟨k6, 0, none⟩), .pointer (some ⟨k4, 0, none⟩)], .func (.func 50) #[] #[.pointer (some ⟨k1, 0, none⟩), .pointer (some ⟨k3, 0, none⟩), .pointer (some ⟨k5, 0, none⟩)], .func (.func 52) #[] #[.pointer (some ⟨k4, 0, none⟩), .pointer (some ⟨k3, 0, none⟩), .pointer (some ⟨k1, 0, none⟩)]] := hr2.out
  obtain ⟨rb, hrb⟩ : ∃ rb, rb = w1.heap.size := ⟨_, rfl⟩
  have q2 : Row w2 rb 67 [.func (.func 47) #[] #[.pointer (some ⟨k1, 0, none⟩), .pointer (some ⟨k3, 0, none⟩), .pointer (some ⟨k5, 0, none⟩)], .func (.func 49) #[] #[.pointer (some ⟨k6, 0, none⟩), .pointer (some ⟨k4, 0, none⟩)], .func (.func 50) #[] #[.pointer (some ⟨k1, 0, none⟩), .pointer (some ⟨k3, 0, none⟩), .pointer (some ⟨k5, 0, none⟩)], .func (.func 52) #[] #[.pointer (some ⟨k4, 0, none⟩), .pointer (some ⟨k3, 0, none⟩), .pointer (some ⟨k1, 0, none⟩)]] := by rw [hrb]; exact q2
  rw [← hrb]
  have hR := hR.below hb2
  have s2 := (s0.below hb1).below hb2
  have B2 := below_and (below_and B0 le hb1) le hb2
  have HKK := (show Hid (w.heap.size ≤ k3 ∧ w.heap.size ≤ k4) by show _ ∧ _; have := B0.size; omega)
  clear rowr hone hr2 hg2 hrb hb1 hb2 hC s0 B0 hkk
  go_upto_region 3 with fail
  obtain ⟨w3, hw3⟩ : ∃ w3, w3 = w2.alloc (.cells #[.int .i64 0, .slice none 0 0, .slice none 0 0, .slice none 0 0] 27) := ⟨_, rfl⟩
  have a3 : Row w3 w2.heap.size 27 [.int .i64 0, .slice none 0 0, .slice none 0 0, .slice none 0 0] := by rw [hw3]; exact Row.new w2 27 _
  have hb3 : Below w2.heap.size w2 w3 := by rw [hw3]; exact below_alloc _ _
  rw [← hw3]
  have hlow := hR.low
  have hR3 := hR.below hb3
  have q3 := q2.below hb3
  have s3 := s2.below hb3
  have B3 := below_and B2 le hb3
  have n3 := q3.apart hR3.r3 (by decide)
  have n4 := q3.apart hR3.r4 (by decide)
  have m3 := s3.apart hR3.r3 (by decide)
  have m4 := s3.apart hR3.r4 (by decide)
  obtain ⟨ab, hab⟩ : ∃ ab, ab = w2.heap.size := ⟨_, rfl⟩
  have a3 : Row w3 ab 27 [.int .i64 0, .slice none 0 0, .slice none 0 0, .slice none 0 0] := by rw [hab]; exact a3
  rw [← hab]
  have o3 := a3.apart hR3.r3 (by decide)
  have o4 := a3.apart hR3.r4 (by decide)
  have HAB := (show Hid (w2.heap.size ≤ ab) by show _ ≤ _; omega)
  have hqa : rb ≠ ab := by have := q2.lt; omega
  have hsa : sb ≠ ab := by have := s2.lt; omega
  have hab3 : ab < w3.heap.size := a3.lt
  have hWB : w.heap.size ≤ ab := by have := B2.size; omega
  clear hw3 hb3 hR q2 s2 hab
  have cf := q3.cell (j := 0) rfl
  have hC := rNum_any hR3
  go_upto_region 4 with (first
    | (go_at_call 47; refine hC.mono ?_; rintro e w4 ⟨n, p4, b4, rfl, hn, rg4, hR4, hc4⟩; have ax := hc4.row a3 o3 o4)
    | (refine wl_set rfl _ _ _ rfl ab 0 _ rfl rfl _ _ ax (show 0 < 4 by decide) (by kernel_rfl) rfl ?_; intro w5 hr5 hg5))
  have a5 : Row w5 ab 27 [.int .i64 n, .slice none 0 0, .slice none 0 0, .slice none 0 0] := hr5.out
  have hR5 := hR4.above hlow hg5 (fun g hg => by cases hg; exact HAB.out)
  have q5 := (hc4.row q3 n3 n4).grown hg5 (fun e => hqa (by injection e with e; exact e.symm))
  have s5 := (hc4.row s3 m3 m4).grown hg5 (fun e => hsa (by injection e with e; exact e.symm))
  have B5 : Below w.heap.size w w5 := (B3.trans (hc4.bel B3.size HKK.out.1 HKK.out.2)).trans (grown_below hg5 (Nat.le_trans B3.size hc4.size) (fun k hk => by cases hk; exact hWB))
  have hab5 : ab < w5.heap.size := a5.lt
  clear cf hC hR3 hR4 q3 s3 a3 ax hr5 hg5 hc4 B3 hab3
  have hC := lEnt_any hR5 rb q5 64 (by omega)
  go_upto_region 5 with (first
    | (refine wl_load rfl _ _ rfl rb rfl _ _ q5 _ Try.underlying67 rfl (by kernel_rfl) ?_)
    | (go_at_call 28; refine hC.mono ?_; rintro e w6 ⟨v6, y6, p6, b6, rfl, hL6, hm6, rg6, hR6, hc6⟩; obtain ⟨x6, z6, hvf6⟩ := hL6.fm mov_oent; subst hvf6; have ax := hc6.row a5 o3 o4)
    | (refine wl_set rfl _ _ _ rfl ab 1 _ rfl rfl _ _ ax (show 1 < 4 by decide) (by kernel_rfl) rfl ?_; intro w7 hr7 hg7))
  have a7 : Row w7 ab 27 [.int .i64 n, .slice x6 y6.length z6, .slice none 0 0, .slice none 0 0] := hr7.out
  have hR7 := hR6.above hlow hg7 (fun g hg => by cases hg; exact HAB.out)
  have q7 := (hc6.row q5 n3 n4).grown hg7 (fun e => hqa (by injection e with e; exact e.symm))
  have s7 := (hc6.row s5 m3 m4).grown hg7 (fun e => hsa (by injection e with e; exact e.symm))
  have B7 : Below w.heap.size w w7 := (B5.trans (hc6.bel B5.size HKK.out.1 HKK.out.2)).trans (grown_below hg7 (Nat.le_trans B5.size hc6.size) (fun k hk => by cases hk; exact hWB))
  have hab7 : ab < w7.heap.size := a7.lt
  have k3b : k3 < w5.heap.size := hR5.r3.lt
  have k4b : k4 < w5.heap.size := hR5.r4.lt
  have hL7 := hL6.grown mov_oent hg7 hab5
  have hL7s : w5.heap.size ≤ w5.heap.size := Nat.le_refl _
  have KB3 := (show Hid (k3 < w5.heap.size) from k3b)
  have KB4 := (show Hid (k4 < w5.heap.size) from k4b)
  have SZ1 := (show Hid (w5.heap.size ≤ w7.heap.size) from Nat.le_trans (Nat.le_trans hL7s hc6.size) hg7.size)
  clear hC hR5 hR6 q5 s5 a5 ax hr7 k3b k4b hL6  hc6 hg7
  have hC := lLea_any hR7 rb q7 16 (by omega)
  go_upto_region 6 with (first
    | (refine wl_load rfl _ _ rfl rb rfl _ _ q7 _ Try.underlying67 rfl (by kernel_rfl) ?_)
    | (go_at_call 30; refine hC.mono ?_; rintro e w9 ⟨v9, y9, p9, b9, rfl, hL9, hm9, rg9, hR9, hc9⟩; obtain ⟨x9, z9, hvf9⟩ := hL9.fm mov_olea; subst hvf9; have ax := hc9.row a7 o3 o4)
    | (refine wl_set rfl _ _ _ rfl ab 2 _ rfl rfl _ _ ax (show 2 < 4 by decide) (by kernel_rfl) rfl ?_; intro w10 hr10 hg10))
  have a10 : Row w10 ab 27 [.int .i64 n, .slice x6 y6.length z6, .slice x9 y9.length z9, .slice none 0 0] := hr10.out
  have hR10 := hR9.above hlow hg10 (fun g hg => by cases hg; exact HAB.out)
  have q10 := (hc9.row q7 n3 n4).grown hg10 (fun e => hqa (by injection e with e; exact e.symm))
  have s10 := (hc9.row s7 m3 m4).grown hg10 (fun e => hsa (by injection e with e; exact e.symm))
  have B10 : Below w.heap.size w w10 := (B7.trans (hc9.bel B7.size HKK.out.1 HKK.out.2)).trans (grown_below hg10 (Nat.le_trans B7.size hc9.size) (fun k hk => by cases hk; exact hWB))
  have hab10 : ab < w10.heap.size := a10.lt
  have k3b : k3 < w7.heap.size := hR7.r3.lt
  have k4b : k4 < w7.heap.size := hR7.r4.lt
  have hL7_10 := (hL7.chg mov_oent hc9 (Nat.lt_of_lt_of_le KB3.out hL7s) (Nat.lt_of_lt_of_le KB4.out hL7s)).grown mov_oent hg10 (Nat.lt_of_lt_of_le hab5 hL7s)
  have hL7_10s := hL7s
  have hL10 := hL9.grown mov_olea hg10 hab7
  have hL10s : w5.heap.size ≤ w7.heap.size := SZ1.out
  have SZ2 := (show Hid (w5.heap.size ≤ w10.heap.size) from Nat.le_trans (Nat.le_trans hL10s hc9.size) hg10.size)
  clear hC hR7 hR9 q7 s7 a7 ax hr10 k3b k4b hL9 hL7 hc9 hg10
  clear hab7
  have hC := lSes_any hR10 rb q10 4 (by omega)
  go_upto_region 7 with (first
    | (refine wl_load rfl _ _ rfl rb rfl _ _ q10 _ Try.underlying67 rfl (by kernel_rfl) ?_)
    | (go_at_call 32; refine hC.mono ?_; rintro e w12 ⟨v12, y12, p12, b12, rfl, hL12, hm12, rg12, hR12, hc12⟩; obtain ⟨x12, z12, hvf12⟩ := hL12.fm mov_oses; subst hvf12; have ax := hc12.row a10 o3 o4)
    | (refine wl_set rfl _ _ _ rfl ab 3 _ rfl rfl _ _ ax (show 3 < 4 by decide) (by kernel_rfl) rfl ?_; intro w13 hr13 hg13))
  have a13 : Row w13 ab 27 [.int .i64 n, .slice x6 y6.length z6, .slice x9 y9.length z9, .slice x12 y12.length z12] := hr13.out
  have hR13 := hR12.above hlow hg13 (fun g hg => by cases hg; exact HAB.out)
  have q13 := (hc12.row q10 n3 n4).grown hg13 (fun e => hqa (by injection e with e; exact e.symm))
  have s13 := (hc12.row s10 m3 m4).grown hg13 (fun e => hsa (by injection e with e; exact e.symm))
  have B13 : Below w.heap.size w w13 := (B10.trans (hc12.bel B10.size HKK.out.1 HKK.out.2)).trans (grown_below hg13 (Nat.le_trans B10.size hc12.size) (fun k hk => by cases hk; exact hWB))
  have hab13 : ab < w13.heap.size := a13.lt
  have k3b : k3 < w10.heap.size := hR10.r3.lt
  have k4b : k4 < w10.heap.size := hR10.r4.lt
  have hL7_10_13 := (hL7_10.chg mov_oent hc12 (Nat.lt_of_lt_of_le KB3.out hL7_10s) (Nat.lt_of_lt_of_le KB4.out hL7_10s)).grown mov_oent hg13 (Nat.lt_of_lt_of_le hab5 hL7_10s)
  have hL7_10_13s := hL7_10s
  have hL10_13 := (hL10.chg mov_olea hc12 (Nat.lt_of_lt_of_le KB3.out hL10s) (Nat.lt_of_lt_of_le KB4.out hL10s)).grown mov_olea hg13 (Nat.lt_of_lt_of_le hab5 hL10s)
  have hL10_13s := hL10s
  have hL13 := hL12.grown mov_oses hg13 hab10
  have hL13s : w5.heap.size ≤ w10.heap.size := SZ2.out
  have SZ3 := (show Hid (w5.heap.size ≤ w13.heap.size) from Nat.le_trans (Nat.le_trans hL13s hc12.size) hg13.size)
  clear hC hR10 hR12 q10 s10 a10 ax hr13 k3b k4b hL12 hL7_10 hL10 hc12 hg13
  clear hab10
  have hO : OApp w.heap.size w13 [.int .i64 n, .slice x6 y6.length z6, .slice x9 y9.length z9, .slice x12 y12.length z12] (n, y6, y9, y12) := ⟨_, _, _, rfl, hL7_10_13.weak mov_oent (Nat.le_trans B5.size hL7_10_13s), hL10_13.weak mov_olea (Nat.le_trans B5.size hL10_13s), hL13.weak mov_oses (Nat.le_trans B5.size hL13s)⟩
  have rgA : Rdg (cAp 16 64 64 16 4).rd l 0 false (n, y6, y9, y12) p12 b12 := rg4.pair (rg6.pair (rg9.pair rg12))
  have hdec := rgA.whole
  have hE := rEnd_any hR13
  have hRt := rightA_any w13 _ _ hO.app
  have hA : dcA l = if (b12 = false ∧ p12 = l.length) ∧ rgtA (n, y6, y9, y12) then (n, y6, y9, y12) else (0, [], [], []) := by
    unfold dcA decA
    rw [hdec]
    split <;> rfl
  have hX : dcE l = if (b12 = false ∧ p12 = l.length) ∧ rgtA (n, y6, y9, y12) then 0 else 101 := by
    unfold dcE decA
    rw [hdec]
    split <;> rfl
  have HA := (show Hid (∀ er a e w', dcE l = er → dcA l = a → (∃ row, e = Ending.returned (.tuple #[.agg row.toArray, .int .i64 er]) ∧ OApp w.heap.size w' row a ∧ Below w.heap.size w w') → DcP w l e w') from fun er a e w' h1 h2 h3 => by unfold DcP; rw [h1, h2]; exact h3)
  clear hdec rgA rg4 rg6 rg9 rg12 hL7_10_13 hL10_13 hL13
  have cf := q13.cell (j := 3) rfl
  have hsw := HS.out
  by_cases hb : b12 = false ∧ p12 = l.length
  · rw [decide_eq_true hb] at hE
    by_cases hg : rgtA (n, y6, y9, y12)
    · rw [decide_eq_true hg] at hRt
      rw [if_pos ⟨hb, hg⟩] at hA hX
      have hone : ∀ x ∈ ([.int .i64 n, .slice x6 y6.length z6, .slice x9 y9.length z9, .slice x12 y12.length z12] : List Value), x.oneCell' = true := by
        intro x hx
        simp only [List.mem_cons, List.not_mem_nil, or_false] at hx
        rcases hx with rfl | rfl | rfl | rfl <;> rfl
      clear hb hg
      go_wp2_with (first
        | (go_at_call 52; refine hE.mono ?_; rintro e w13 ⟨rfl, rfl⟩)
        | (refine wl_load_w (by rfl) _ _ rfl ab rfl _ _ a13 _ Try.underlying27 rfl (by kernel_rfl) ?_)
        | (go_at_call 16; refine hRt.mono ?_; rintro e w20 ⟨rfl, hb20⟩; have a20 := a13.below hb20; have s20 := s13.below hb20)
        | (refine wl_load rfl _ _ rfl ab rfl _ _ a20 _ Try.underlying27 rfl (by kernel_rfl) ?_)
        | (refine wl_store rfl _ _ _ rfl sb [.int .i64 n, .slice x6 y6.length z6, .slice x9 y9.length z9, .slice x12 y12.length z12] rfl rfl _ _ s20 rfl (by kernel_rfl) hone ?_; intro w21 hr21 hg21))
      have hO20 := hO.below hb20
      have B20 := below_and B13 le hb20
      refine bodyPost_ret (results_ctU rfl _ _ sb _ _ (0, 0) _ (by rfl) hr21.out Try.underlying27 rfl (by kernel_rfl)) rfl ?_
      exact HA.out _ _ _ _ hX hA ⟨_, rfl, hO20.gr hg21 s20, B20.trans (grown_below hg21 B20.size (fun k hk => by cases hk; exact hsw))⟩
    · rw [decide_eq_false hg] at hRt
      rw [if_neg (fun hh => hg hh.2)] at hA hX
      clear hb hg
      go_wp2_with (first
        | (go_at_call 52; refine hE.mono ?_; rintro e w13 ⟨rfl, rfl⟩)
        | (refine wl_load_w (by rfl) _ _ rfl ab rfl _ _ a13 _ Try.underlying27 rfl (by kernel_rfl) ?_)
        | (go_at_call 16; refine hRt.mono ?_; rintro e w20 ⟨rfl, hb20⟩; have a20 := a13.below hb20; have s20 := s13.below hb20)
        | (refine wl_store rfl _ _ _ rfl sb [.int .i64 0, .slice none 0 0, .slice none 0 0, .slice none 0 0] rfl rfl _ _ s20 rfl (by kernel_rfl) (by decide) ?_; intro w21 hr21 hg21))
      have B20 := below_and B13 le hb20
      refine bodyPost_ret (results_ctU rfl _ _ sb _ _ (0, 0) _ (by rfl) hr21.out Try.underlying27 rfl (by kernel_rfl)) rfl ?_
      exact HA.out _ _ _ _ hX hA ⟨_, rfl, OApp.zero _ _, B20.trans (grown_below hg21 B20.size (fun k hk => by cases hk; exact hsw))⟩
  · rw [decide_eq_false hb] at hE
    rw [if_neg (fun hh => hb hh.1)] at hA hX
    clear hb
    go_wp2_with (first
      | (go_at_call 52; refine hE.mono ?_; rintro e w13 ⟨rfl, rfl⟩)
      | (refine wl_store rfl _ _ _ rfl sb [.int .i64 0, .slice none 0 0, .slice none 0 0, .slice none 0 0] rfl rfl _ _ s13 rfl (by kernel_rfl) (by decide) ?_; intro w21 hr21 hg21))
    refine bodyPost_ret (results_ctU rfl _ _ sb _ _ (0, 0) _ (by rfl) hr21.out Try.underlying27 rfl (by kernel_rfl)) rfl ?_
    exact HA.out _ _ _ _ hX hA ⟨_, rfl, OApp.zero _ _, B13.trans (grown_below hg21 B13.size (fun k hk => by cases hk; exact hsw))⟩
end Go.Proofs.Ytejkkhlblnepeaa
