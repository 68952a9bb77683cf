/- slices.Insert of one session. -/
import Derived.Test.YteafgdidjdfiiaaGreatJ05
import Derived.Test.YteafgdidjdfiiaaGreatXe
import Derived.Test.YteafgdidjdfiiaaGreatZj
section
set_option linter.unusedVariables false
set_option linter.unusedSimpArgs false
namespace Go.Proofs.YteafgdidjdfiiaaGreat
open Go.RowKit Oct Kvl

/-- All of a reader lies below B. -/
def Rdb (B k1 k3 k4 k5 k6 : Nat) (bv : Value) (l : List Int) : Prop := k1 < B ∧ k3 < B ∧ k4 < B ∧ k5 < B ∧ k6 < B ∧ (l ≠ [] → ∀ k, bv.ownBlock = some k → k < B)
theorem Rdr.low {k1 k3 k4 k5 k6 : Nat} {w : World} {bv : Value} {l : List Int} {p : Nat} {bad : Bool} (h : Rdr k1 k3 k4 k5 k6 w bv l p bad) : Rdb w.heap.size k1 k3 k4 k5 k6 bv l := ⟨h.r1.lt, h.r3.lt, h.r4.lt, h.r5.lt, h.r6.lt, fun hx k hk => h.rd.1.lt hx k hk⟩
theorem Rdr.above {k1 k3 k4 k5 k6 B : Nat} {w w' : World} {bv : Value} {l : List Int} {p : Nat} {bad : Bool} (h : Rdr k1 k3 k4 k5 k6 w bv l p bad) (hb : Rdb B k1 k3 k4 k5 k6 bv l) {r : Option Nat} (hg : w.grownBy w' r) (hr : ∀ g, r = some g → B ≤ g) : Rdr k1 k3 k4 k5 k6 w' bv l p bad := by
  obtain ⟨b1, b3, b4, b5, b6, bb⟩ := hb
  have ne : ∀ j, j < B → r ≠ some j := fun j hj e => by have := hr j e; omega
  exact ⟨h.r1.grown hg (ne _ b1), h.r3.grown hg (ne _ b3), h.r4.grown hg (ne _ b4), h.r5.grown hg (ne _ b5), h.r6.grown hg (ne _ b6), ⟨h.rd.1.grown hg (fun hx k hk e => by have := hr k hk; have := bb hx k e; omega), h.rd.2⟩, h.hp, h.hl⟩
theorem Chg.grown {k3 k4 : Nat} {w w1 w2 : World} (h : Chg k3 k4 w w1) {r : Option Nat} (hg : w1.grownBy w2 r) (hr : ∀ g, r = some g → w.heap.size ≤ g) : Chg k3 k4 w w2 :=
  ⟨hg.os.trans h.os, hg.tape.trans h.tape, hg.output.trans h.output, Nat.le_trans h.size hg.size, fun k hk h3 h4 => (hg.block k (Nat.lt_of_lt_of_le hk h.size) (fun e => by have := hr k e.symm; omega)).trans (h.block k hk h3 h4)⟩
theorem OT.gr {G : Nat → Prop} {w w' : World} {v : Value} {t : List Int} (h : OT G w v t) {b : Nat} {e : TypeId} {xs : List Value} (hr : Row w b e xs) (he : e ≠ 5) (hg : w.grownBy w' (some b)) : OT G w' v t :=
  ⟨h.1.grown hg (fun k hk => by cases hk; exact own_row_nU hr h.1 he), h.2.1, h.2.2⟩
/-- The end of a call that reads a record. -/
def RRp (k1 k3 k4 k5 k6 : Nat) (w : World) (bv : Value) (l : List Int) (p : Nat) (bad : Bool) (R : (Nat → Prop) → World → List Value → PEnt → Prop) (rd : List Int → Option (PEnt × List Int)) (e : Ending) (w' : World) : Prop :=
  ∃ row x p' bad', e = .returned (.agg row.toArray) ∧ R (From w.heap.size) w' row x ∧ Rdg rd l p bad x p' bad' ∧ Rdr k1 k3 k4 k5 k6 w' bv l p' bad' ∧ Chg k3 k4 w w'
/-- The end of a call that reads a list. -/
def RLp (k1 k3 k4 k5 k6 : Nat) (w : World) (bv : Value) (l : List Int) (p : Nat) (bad : Bool) (R : (Nat → Prop) → World → List Value → PEnt → Prop) (T : TypeId) (k : Nat) (m : Int) (rd : List Int → Option (List PEnt × List Int)) (e : Ending) (w' : World) : Prop :=
  ∃ v ys p' bad', e = .returned v ∧ LB R T k w.heap.size w' v ys ∧ (ys.length : Int) ≤ m ∧ Rdg rd l p bad ys p' bad' ∧ Rdr k1 k3 k4 k5 k6 w' bv l p' bad' ∧ Chg k3 k4 w w'

set_option maxRecDepth 10000 in
set_option maxHeartbeats 2000000 in
theorem dEnt_any {k1 k3 k4 k5 k6 : Nat} {w : World} {bv : Value} {l : List Int} {p : Nat} {bad : Bool} (h : Rdr k1 k3 k4 k5 k6 w bv l p bad) (rb : Nat) (hrb : Row w rb 82 [.func (.func 62) #[] #[.pointer (some ⟨k1, 0, none⟩), .pointer (some ⟨k3, 0, none⟩), .pointer (some ⟨k5, 0, none⟩)], .func (.func 64) #[] #[.pointer (some ⟨k6, 0, none⟩), .pointer (some ⟨k4, 0, none⟩)], .func (.func 65) #[] #[.pointer (some ⟨k1, 0, none⟩), .pointer (some ⟨k3, 0, none⟩), .pointer (some ⟨k5, 0, none⟩)], .func (.func 66) #[] #[.pointer (some ⟨k4, 0, none⟩), .pointer (some ⟨k3, 0, none⟩), .pointer (some ⟨k1, 0, none⟩)]]) :
    Calls Tryz.prog 31 #[.pointer (some ⟨rb, 0, none⟩)] w (RRp k1 k3 k4 k5 k6 w bv l p bad OEnt (cEn 16 64).rd) := by
  have hlow := h.low
  have hb3 := h.r3.lt
  have hb4 := h.r4.lt
  have n3 := hrb.apart h.r3 (by decide)
  have n4 := hrb.apart h.r4 (by decide)
  have hrl := hrb.lt
  obtain ⟨w0, hw0⟩ : ∃ w0, w0 = (w.alloc (.cells #[.slice none 0 0, .slice none 0 0] 73)).alloc (.cells #[.slice none 0 0, .slice none 0 0] 73) := ⟨_, rfl⟩
  have B0 : Below w.heap.size w w0 := by rw [hw0]; exact below_and (below_alloc _ _) (Nat.le_refl _) (below_alloc _ _)
  have hs : Row w0 w.heap.size 73 [.slice none 0 0, .slice none 0 0] := by rw [hw0]; exact rowA (Row.new w 73 _) _
  have hv : Row w0 (w.heap.size + 1) 73 [.slice none 0 0, .slice none 0 0] := by
    rw [hw0]
    have := Row.new (w.alloc (.cells #[.slice none 0 0, .slice none 0 0] 73)) 73 [.slice none 0 0, .slice none 0 0]
    simpa using this
  have hR := h.below B0
  have hrb0 := hrb.below B0
  go_enter Tryz.func31, Tryz.ntmps31
  go_upto_region 2 with fail
  rw [← hw0]
  clear hw0
  obtain ⟨vb, hvb⟩ : ∃ vb, vb = w.heap.size + 1 := ⟨_, rfl⟩
  obtain ⟨sb, hsb⟩ : ∃ sb, sb = w.heap.size := ⟨_, rfl⟩
  rw [← hvb] at hv ⊢
  have hs : Row w0 sb 73 [.slice none 0 0, .slice none 0 0] := by rw [hsb]; exact hs
  rw [← hsb]
  have hcI : Chg k3 k4 w w0 := Chg.below B0
  have hvs : vb ≠ sb := by omega
  have hv3 : vb ≠ k3 := by omega
  have hv4 : vb ≠ k4 := by omega
  have hs3 : sb ≠ k3 := by omega
  have hs4 : sb ≠ k4 := by omega
  have hvr : rb ≠ vb := by omega
  have hvw : w.heap.size ≤ vb := by omega
  have HSB := (show Hid (w.heap.size ≤ sb) by show _ ≤ _; omega)
  have HSB := (show Hid (w.heap.size ≤ sb) by show _ ≤ _; omega)
  have HSB := (show Hid (w.heap.size ≤ sb) by show _ ≤ _; omega)
  clear hvb hsb h hrb B0
  have cf := hrb0.cell (j := 2) rfl
  have hC := rText_any hR 16
  go_upto_region 3 with (first
    | (go_at_call 65; refine hC.mono ?_; rintro e w1 ⟨v0, t0, p0, b0, rfl, ot0, rg0, hR0, hc0⟩; obtain ⟨aa0, cc0, hvv0, _⟩ := ot0.rt.form; subst hvv0; have hvx := hc0.row hv hv3 hv4)
    | (refine wl_set rfl _ _ _ rfl vb 0 _ rfl rfl _ _ hvx (show 0 < 2 by decide) (by kernel_rfl) rfl ?_; intro w2 hr0 hg0))
  have hs0 := (hc0.row hs hs3 hs4).grown hg0 (fun e => hvs (by injection e))
  have hrb1 := (hc0.row hrb0 n3 n4).grown hg0 (fun e => hvr (by injection e with e; exact e.symm))
  have hR0' := hR0.above hlow hg0 (fun g hg => by cases hg; exact hvw)
  have hcc0 : Chg k3 k4 w w2 := (hcI.trans hc0).grown hg0 (fun g hg => by cases hg; exact hvw)
  have hv0' : Row w2 vb 73 [.slice aa0 t0.length cc0, .slice none 0 0] := hr0.out
  have hsz0 : w.heap.size ≤ w0.heap.size := hcI.size
  have ot0' := (ot0.gr hvx (by decide) hg0).mv (Mv.weak hsz0)
  clear cf hC hR hv hs hrb0 hvx hR0 hr0
  have cf := hrb1.cell (j := 2) rfl
  have hC := rText_any hR0' 64
  go_upto_region 4 with (first
    | (go_at_call 65; refine hC.mono ?_; rintro e w3 ⟨v1, t1, p1, b1, rfl, ot1, rg1, hR1, hc1⟩; obtain ⟨aa1, cc1, hvv1, _⟩ := ot1.rt.form; subst hvv1; have hvx := hc1.row hv0' hv3 hv4)
    | (refine wl_set rfl _ _ _ rfl vb 1 _ rfl rfl _ _ hvx (show 1 < 2 by decide) (by kernel_rfl) rfl ?_; intro w4 hr1 hg1))
  have hs1 := (hc1.row hs0 hs3 hs4).grown hg1 (fun e => hvs (by injection e))
  have hrb2 := (hc1.row hrb1 n3 n4).grown hg1 (fun e => hvr (by injection e with e; exact e.symm))
  have hR1' := hR1.above hlow hg1 (fun g hg => by cases hg; exact hvw)
  have hcc1 : Chg k3 k4 w w4 := (hcc0.trans hc1).grown hg1 (fun g hg => by cases hg; exact hvw)
  have hv1' : Row w4 vb 73 [.slice aa0 t0.length cc0, .slice aa1 t1.length cc1] := hr1.out
  have ot0_1 := (ot0'.mv (hc1.mv hb3 hb4)).gr hvx (by decide) hg1
  have hsz1 : w.heap.size ≤ w2.heap.size := hcc0.size
  have ot1' := (ot1.gr hvx (by decide) hg1).mv (Mv.weak hsz1)
  clear cf hC hR0' hv0' hs0 hrb1 hvx hR1 hr1
  have hone : ∀ x ∈ ([.slice aa0 t0.length cc0, .slice aa1 t1.length cc1] : List Value), x.oneCell' = true := by
    intro x hx
    simp only [List.mem_cons, List.not_mem_nil, or_false] at hx
    rcases hx with rfl | rfl <;> rfl
  go_wp2_with (first
    | (refine wl_load rfl _ _ rfl vb rfl _ _ hv1' _ Tryz.underlying73 rfl (by kernel_rfl) ?_)
    | (refine wl_store rfl _ _ _ rfl sb [.slice aa0 t0.length cc0, .slice aa1 t1.length cc1] rfl rfl _ _ hs1 rfl (by kernel_rfl) hone ?_; intro wz hrz hgz))
  have hswz : w.heap.size ≤ sb := HSB.out
  refine bodyPost_ret (v := .agg ([.slice aa0 t0.length cc0, .slice aa1 t1.length cc1] : List Value).toArray) (results_cell_row rfl _ _ sb _ _ (0, 0) _ (by rfl) hrz.out Tryz.underlying73 rfl (by kernel_rfl)) rfl ?_
  exact ⟨_, (t0, t1), _, _, rfl, ⟨_, _, rfl, ot0_1.gr hs1 (by decide) hgz, ot1'.gr hs1 (by decide) hgz⟩, rg0.pair rg1, hR1'.above hlow hgz (fun g hg => by cases hg; exact hswz), hcc1.grown hgz (fun g hg => by cases hg; exact hswz)⟩

theorem Tryz.inf10OEnt : (Tryz.prog.info? 73).map (fun i => (i.zero, i.size, i.bytes)) = some (some (.agg #[.slice none 0 0, .slice none 0 0]), 2, 48) := by kernel_rfl
theorem len10OEnt {G : Nat → Prop} {w : World} {r : List Value} {x : PEnt} (h : OEnt G w r x) : r.length = 2 ∧ ∀ u ∈ r, u.oneCell' = true := by
  obtain ⟨a, b, rfl, o1, o2⟩ := h
  refine ⟨rfl, fun x hx => ?_⟩
  simp only [List.mem_cons, List.not_mem_nil, or_false] at hx
  rcases hx with rfl | rfl
  · exact o1.rt.one
  · exact o2.rt.one
set_option maxRecDepth 10000 in
set_option maxHeartbeats 2000000 in
theorem lEnt_any {k1 k3 k4 k5 k6 : Nat} {w : World} {bv : Value} {l : List Int} {p : Nat} {bad : Bool} (h : Rdr k1 k3 k4 k5 k6 w bv l p bad) (rb : Nat) (hrb : Row w rb 82 [.func (.func 62) #[] #[.pointer (some ⟨k1, 0, none⟩), .pointer (some ⟨k3, 0, none⟩), .pointer (some ⟨k5, 0, none⟩)], .func (.func 64) #[] #[.pointer (some ⟨k6, 0, none⟩), .pointer (some ⟨k4, 0, none⟩)], .func (.func 65) #[] #[.pointer (some ⟨k1, 0, none⟩), .pointer (some ⟨k3, 0, none⟩), .pointer (some ⟨k5, 0, none⟩)], .func (.func 66) #[] #[.pointer (some ⟨k4, 0, none⟩), .pointer (some ⟨k3, 0, none⟩), .pointer (some ⟨k1, 0, none⟩)]]) (m : Int) (hm : 0 ≤ m ∧ m ≤ 100) :
    Calls Tryz.prog 30 #[.agg #[.func (.func 62) #[] #[.pointer (some ⟨k1, 0, none⟩), .pointer (some ⟨k3, 0, none⟩), .pointer (some ⟨k5, 0, none⟩)], .func (.func 64) #[] #[.pointer (some ⟨k6, 0, none⟩), .pointer (some ⟨k4, 0, none⟩)], .func (.func 65) #[] #[.pointer (some ⟨k1, 0, none⟩), .pointer (some ⟨k3, 0, none⟩), .pointer (some ⟨k5, 0, none⟩)], .func (.func 66) #[] #[.pointer (some ⟨k4, 0, none⟩), .pointer (some ⟨k3, 0, none⟩), .pointer (some ⟨k1, 0, none⟩)]], .int .i64 m, .func (.func 31) #[] #[.pointer (some ⟨rb, 0, none⟩)]] w (RLp k1 k3 k4 k5 k6 w bv l p bad OEnt 73 2 m (cLm m (cEn 16 64)).rd) := by
  have hlow := h.low
  have hb3 := h.r3.lt
  have hb4 := h.r4.lt
  have n3 := hrb.apart h.r3 (by decide)
  have n4 := hrb.apart h.r4 (by decide)
  obtain ⟨w0, hw0⟩ : ∃ w0, w0 = w.alloc (.cells #[.func (.func 62) #[] #[.pointer (some ⟨k1, 0, none⟩), .pointer (some ⟨k3, 0, none⟩), .pointer (some ⟨k5, 0, none⟩)], .func (.func 64) #[] #[.pointer (some ⟨k6, 0, none⟩), .pointer (some ⟨k4, 0, none⟩)], .func (.func 65) #[] #[.pointer (some ⟨k1, 0, none⟩), .pointer (some ⟨k3, 0, none⟩), .pointer (some ⟨k5, 0, none⟩)], .func (.func 66) #[] #[.pointer (some ⟨k4, 0, none⟩), .pointer (some ⟨k3, 0, none⟩), .pointer (some ⟨k1, 0, none⟩)]] 82) := ⟨_, rfl⟩
  have B0 : Below w.heap.size w w0 := by rw [hw0]; exact below_alloc _ _
  have hx : Row w0 w.heap.size 82 [.func (.func 62) #[] #[.pointer (some ⟨k1, 0, none⟩), .pointer (some ⟨k3, 0, none⟩), .pointer (some ⟨k5, 0, none⟩)], .func (.func 64) #[] #[.pointer (some ⟨k6, 0, none⟩), .pointer (some ⟨k4, 0, none⟩)], .func (.func 65) #[] #[.pointer (some ⟨k1, 0, none⟩), .pointer (some ⟨k3, 0, none⟩), .pointer (some ⟨k5, 0, none⟩)], .func (.func 66) #[] #[.pointer (some ⟨k4, 0, none⟩), .pointer (some ⟨k3, 0, none⟩), .pointer (some ⟨k1, 0, none⟩)]] := by rw [hw0]; exact Row.new w 82 _
  have hR := h.below B0
  have hrb0 := hrb.below B0
  have cf := hx.cell (j := 1) rfl
  have hC := rCnt_any hR m hm.1
  go_enter Tryz.func30, Tryz.ntmps30
  go_upto_region 1 with fail
  rw [← hw0]
  clear hw0
  go_wp2_with (go_at_call 64; refine hC.mono ?_; rintro e w1 ⟨n, p1, b1, rfl, hn, rg1, hR1, hc1⟩)
  obtain ⟨N, rfl⟩ := Int.eq_ofNat_of_zero_le hn.1
  have hC1 : Chg k3 k4 w w1 := (Chg.below B0).trans hc1
  have hrb1 := hc1.row hrb0 n3 n4
  have hNm : (N : Int) ≤ 100 := by omega
  have hNm2 : (N : Int) ≤ m := hn.2
  have HRB := (show Hid (rb < w.heap.size) from hrb.lt)
  have HRB := (show Hid (rb < w.heap.size) from hrb.lt)
  have HRB := (show Hid (rb < w.heap.size) from hrb.lt)
  clear cf hC hR hrb0 hx B0 h hrb hn hc1 hm
  go_loopw [7, 12] (fun v i wr => ∃ (q : Nat) (ys : List PEnt) (p' : Nat) (bad' : Bool), q ≤ N ∧ i = .int .i64 q ∧ LB OEnt 73 2 w.heap.size wr v ys ∧ ys.length = q ∧ Rdg (rdN (cEn 16 64) q) l p1 b1 ys p' bad' ∧ Rdr k1 k3 k4 k5 k6 wr bv l p' bad' ∧ Chg k3 k4 w wr ∧ Row wr rb 82 [.func (.func 62) #[] #[.pointer (some ⟨k1, 0, none⟩), .pointer (some ⟨k3, 0, none⟩), .pointer (some ⟨k5, 0, none⟩)], .func (.func 64) #[] #[.pointer (some ⟨k6, 0, none⟩), .pointer (some ⟨k4, 0, none⟩)], .func (.func 65) #[] #[.pointer (some ⟨k1, 0, none⟩), .pointer (some ⟨k3, 0, none⟩), .pointer (some ⟨k5, 0, none⟩)], .func (.func 66) #[] #[.pointer (some ⟨k4, 0, none⟩), .pointer (some ⟨k3, 0, none⟩), .pointer (some ⟨k1, 0, none⟩)]]) (fun _ i _ => N - (intOf i).toNat)
  case atStart => exact ⟨0, [], p1, b1, Nat.zero_le _, rfl, LB.nil _ _ _ _ _, rfl, Rdg.nil rg1.1, hR1, hC1, hrb1⟩
  case round =>
    clear hR1 hC1 hrb1
    obtain ⟨q, ys, p2, b2, hq, rfl, hLB, hys, rg2, hR2, hc2, hrb2⟩ := hrel
    by_cases hql : q < N
    · have hqi : (q : Int) < (N : Int) := by omega
      have hO := dEnt_any hR2 rb hrb2
      have hfr := hLB.fr
      have hlt := hLB.lt
      have hsz := hc2.size
      have hbd : (ys.length + 1) * 48 ≤ 140737488355328 := by omega
      have HYS := (show Hid (ys.length = q) from hys)
      clear hys
      go_wp2_with (first
        | (go_at_call 31; refine hO.mono ?_; rintro e w5 ⟨row, y, p3, b3, rfl, hr5, rg3, hR3, hc3⟩; obtain ⟨l5, o5⟩ := len10OEnt hr5; have hr5' := hr5; obtain ⟨s1, s2, rfl, o1, o2⟩ := hr5'; obtain ⟨z1, y1, rfl, _⟩ := o1.rt.form; obtain ⟨z2, y2, rfl, _⟩ := o2.rt.form; have hLB5 := hLB.chg mov_oent hc3 hb3 hb4)
        | (at_builtin; refine wl_push mov_oent rfl _ _ _ rfl 73 2 48 _ Tryz.underlying23 Tryz.inf10OEnt rfl (by decide) w.heap.size u7 ys rfl hLB5 [.slice z1 y.1.length y1, .slice z2 y.2.length y2] y wr.heap.size hr5 l5 o5 hsz hlt rfl (Nat.le_trans hsz hc3.size) hbd (by decide) ?_; intro v7 w7 hLB7 hg7))
      go_roundw
      case rel => exact ⟨q + 1, ys ++ [y], p3, b3, by omega, by go_num, hLB7, by rw [List.length_append, HYS.out]; rfl, rg2.snoc rg3, hR3.above hlow hg7 (fun g hg => hfr g hg), (hc2.trans hc3).grown hg7 (fun g hg => hfr g hg), (hc3.row hrb2 n3 n4).grown hg7 (fun e => by have := hfr _ e; have := hrb2.lt; have := HRB.out; omega)⟩
      case measure => simp [intOf]; omega
    · have hqd : decide ((q : Int) < N) = false := by simp; omega
      have hqN : q = N := by omega
      go_wp2_with fail
      go_ret
      exact ⟨_, ys, p2, b2, rfl, hLB, by omega, Rdg.list rg1 (by rw [Int.toNat_natCast, ← hqN]; exact rg2), hR2, hc2⟩

set_option maxRecDepth 10000 in
set_option maxHeartbeats 2000000 in
theorem dLea_any {k1 k3 k4 k5 k6 : Nat} {w : World} {bv : Value} {l : List Int} {p : Nat} {bad : Bool} (h : Rdr k1 k3 k4 k5 k6 w bv l p bad) (rb : Nat) (hrb : Row w rb 82 [.func (.func 62) #[] #[.pointer (some ⟨k1, 0, none⟩), .pointer (some ⟨k3, 0, none⟩), .pointer (some ⟨k5, 0, none⟩)], .func (.func 64) #[] #[.pointer (some ⟨k6, 0, none⟩), .pointer (some ⟨k4, 0, none⟩)], .func (.func 65) #[] #[.pointer (some ⟨k1, 0, none⟩), .pointer (some ⟨k3, 0, none⟩), .pointer (some ⟨k5, 0, none⟩)], .func (.func 66) #[] #[.pointer (some ⟨k4, 0, none⟩), .pointer (some ⟨k3, 0, none⟩), .pointer (some ⟨k1, 0, none⟩)]]) :
    Calls Tryz.prog 33 #[.pointer (some ⟨rb, 0, none⟩)] w (RRp k1 k3 k4 k5 k6 w bv l p bad OLea (cLe 16).rd) := by
  have hlow := h.low
  have hb3 := h.r3.lt
  have hb4 := h.r4.lt
  have n3 := hrb.apart h.r3 (by decide)
  have n4 := hrb.apart h.r4 (by decide)
  have hrl := hrb.lt
  obtain ⟨w0, hw0⟩ : ∃ w0, w0 = (w.alloc (.cells #[.slice none 0 0, .int .i64 0, .int .i64 0] 75)).alloc (.cells #[.slice none 0 0, .int .i64 0, .int .i64 0] 75) := ⟨_, rfl⟩
  have B0 : Below w.heap.size w w0 := by rw [hw0]; exact below_and (below_alloc _ _) (Nat.le_refl _) (below_alloc _ _)
  have hs : Row w0 w.heap.size 75 [.slice none 0 0, .int .i64 0, .int .i64 0] := by rw [hw0]; exact rowA (Row.new w 75 _) _
  have hv : Row w0 (w.heap.size + 1) 75 [.slice none 0 0, .int .i64 0, .int .i64 0] := by
    rw [hw0]
    have := Row.new (w.alloc (.cells #[.slice none 0 0, .int .i64 0, .int .i64 0] 75)) 75 [.slice none 0 0, .int .i64 0, .int .i64 0]
    simpa using this
  have hR := h.below B0
  have hrb0 := hrb.below B0
  go_enter Tryz.func33, Tryz.ntmps33
  go_upto_region 2 with fail
  rw [← hw0]
  clear hw0
  obtain ⟨vb, hvb⟩ : ∃ vb, vb = w.heap.size + 1 := ⟨_, rfl⟩
  obtain ⟨sb, hsb⟩ : ∃ sb, sb = w.heap.size := ⟨_, rfl⟩
  rw [← hvb] at hv ⊢
  have hs : Row w0 sb 75 [.slice none 0 0, .int .i64 0, .int .i64 0] := by rw [hsb]; exact hs
  rw [← hsb]
  have hcI : Chg k3 k4 w w0 := Chg.below B0
  have hvs : vb ≠ sb := by omega
  have hv3 : vb ≠ k3 := by omega
  have hv4 : vb ≠ k4 := by omega
  have hs3 : sb ≠ k3 := by omega
  have hs4 : sb ≠ k4 := by omega
  have hvr : rb ≠ vb := by omega
  have hvw : w.heap.size ≤ vb := by omega
  have HSB := (show Hid (w.heap.size ≤ sb) by show _ ≤ _; omega)
  have HSB := (show Hid (w.heap.size ≤ sb) by show _ ≤ _; omega)
  clear hvb hsb h hrb B0
  have cf := hrb0.cell (j := 2) rfl
  have hC := rText_any hR 16
  go_upto_region 3 with (first
    | (go_at_call 65; refine hC.mono ?_; rintro e w1 ⟨v0, t0, p0, b0, rfl, ot0, rg0, hR0, hc0⟩; obtain ⟨aa0, cc0, hvv0, _⟩ := ot0.rt.form; subst hvv0; have hvx := hc0.row hv hv3 hv4)
    | (refine wl_set rfl _ _ _ rfl vb 0 _ rfl rfl _ _ hvx (show 0 < 3 by decide) (by kernel_rfl) rfl ?_; intro w2 hr0 hg0))
  have hs0 := (hc0.row hs hs3 hs4).grown hg0 (fun e => hvs (by injection e))
  have hrb1 := (hc0.row hrb0 n3 n4).grown hg0 (fun e => hvr (by injection e with e; exact e.symm))
  have hR0' := hR0.above hlow hg0 (fun g hg => by cases hg; exact hvw)
  have hcc0 : Chg k3 k4 w w2 := (hcI.trans hc0).grown hg0 (fun g hg => by cases hg; exact hvw)
  have hv0' : Row w2 vb 75 [.slice aa0 t0.length cc0, .int .i64 0, .int .i64 0] := hr0.out
  have hsz0 : w.heap.size ≤ w0.heap.size := hcI.size
  have ot0' := (ot0.gr hvx (by decide) hg0).mv (Mv.weak hsz0)
  clear cf hC hR hv hs hrb0 hvx hR0 hr0
  have cf := hrb1.cell (j := 0) rfl
  have hC := rNum_any hR0'
  go_upto_region 4 with (first
    | (go_at_call 62; refine hC.mono ?_; rintro e w3 ⟨t1, p1, b1, rfl, hn1, rg1, hR1, hc1⟩; have hvx := hc1.row hv0' hv3 hv4)
    | (refine wl_set rfl _ _ _ rfl vb 1 _ rfl rfl _ _ hvx (show 1 < 3 by decide) (by kernel_rfl) rfl ?_; intro w4 hr1 hg1))
  have hs1 := (hc1.row hs0 hs3 hs4).grown hg1 (fun e => hvs (by injection e))
  have hrb2 := (hc1.row hrb1 n3 n4).grown hg1 (fun e => hvr (by injection e with e; exact e.symm))
  have hR1' := hR1.above hlow hg1 (fun g hg => by cases hg; exact hvw)
  have hcc1 : Chg k3 k4 w w4 := (hcc0.trans hc1).grown hg1 (fun g hg => by cases hg; exact hvw)
  have hv1' : Row w4 vb 75 [.slice aa0 t0.length cc0, .int .i64 t1, .int .i64 0] := hr1.out
  have ot0_1 := (ot0'.mv (hc1.mv hb3 hb4)).gr hvx (by decide) hg1
  clear cf hC hR0' hv0' hs0 hrb1 hvx hR1 hr1
  have cf := hrb2.cell (j := 0) rfl
  have hC := rNum_any hR1'
  go_upto_region 5 with (first
    | (go_at_call 62; refine hC.mono ?_; rintro e w5 ⟨t2, p2, b2, rfl, hn2, rg2, hR2, hc2⟩; have hvx := hc2.row hv1' hv3 hv4)
    | (refine wl_set rfl _ _ _ rfl vb 2 _ rfl rfl _ _ hvx (show 2 < 3 by decide) (by kernel_rfl) rfl ?_; intro w6 hr2 hg2))
  have hs2 := (hc2.row hs1 hs3 hs4).grown hg2 (fun e => hvs (by injection e))
  have hrb3 := (hc2.row hrb2 n3 n4).grown hg2 (fun e => hvr (by injection e with e; exact e.symm))
  have hR2' := hR2.above hlow hg2 (fun g hg => by cases hg; exact hvw)
  have hcc2 : Chg k3 k4 w w6 := (hcc1.trans hc2).grown hg2 (fun g hg => by cases hg; exact hvw)
  have hv2' : Row w6 vb 75 [.slice aa0 t0.length cc0, .int .i64 t1, .int .i64 t2] := hr2.out
  have ot0_2 := (ot0_1.mv (hc2.mv hb3 hb4)).gr hvx (by decide) hg2
  clear cf hC hR1' hv1' hs1 hrb2 hvx hR2 hr2
  have hone : ∀ x ∈ ([.slice aa0 t0.length cc0, .int .i64 t1, .int .i64 t2] : List Value), x.oneCell' = true := by
    intro x hx
    simp only [List.mem_cons, List.not_mem_nil, or_false] at hx
    rcases hx with rfl | rfl | rfl <;> rfl
  go_wp2_with (first
    | (refine wl_load rfl _ _ rfl vb rfl _ _ hv2' _ Tryz.underlying75 rfl (by kernel_rfl) ?_)
    | (refine wl_store rfl _ _ _ rfl sb [.slice aa0 t0.length cc0, .int .i64 t1, .int .i64 t2] rfl rfl _ _ hs2 rfl (by kernel_rfl) hone ?_; intro wz hrz hgz))
  have hswz : w.heap.size ≤ sb := HSB.out
  refine bodyPost_ret (v := .agg ([.slice aa0 t0.length cc0, .int .i64 t1, .int .i64 t2] : List Value).toArray) (results_cell_row rfl _ _ sb _ _ (0, 0) _ (by rfl) hrz.out Tryz.underlying75 rfl (by kernel_rfl)) rfl ?_
  exact ⟨_, fLe (t0, t1, t2), _, _, rfl, ⟨_, _, _, rfl, ot0_2.gr hs2 (by decide) hgz, rfl⟩, (rg0.pair (rg1.pair rg2)).view fLe gLe, hR2'.above hlow hgz (fun g hg => by cases hg; exact hswz), hcc2.grown hgz (fun g hg => by cases hg; exact hswz)⟩

theorem Tryz.inf10OLea : (Tryz.prog.info? 75).map (fun i => (i.zero, i.size, i.bytes)) = some (some (.agg #[.slice none 0 0, .int .i64 0, .int .i64 0]), 3, 40) := by kernel_rfl
theorem len10OLea {G : Nat → Prop} {w : World} {r : List Value} {x : PEnt} (h : OLea G w r x) : r.length = 3 ∧ ∀ u ∈ r, u.oneCell' = true := by
  obtain ⟨a, p, q, rfl, o1, o2⟩ := h
  refine ⟨rfl, fun x hx => ?_⟩
  simp only [List.mem_cons, List.not_mem_nil, or_false] at hx
  rcases hx with rfl | rfl | rfl
  · exact o1.rt.one
  · rfl
  · rfl
set_option maxRecDepth 10000 in
set_option maxHeartbeats 2000000 in
theorem lLea_any {k1 k3 k4 k5 k6 : Nat} {w : World} {bv : Value} {l : List Int} {p : Nat} {bad : Bool} (h : Rdr k1 k3 k4 k5 k6 w bv l p bad) (rb : Nat) (hrb : Row w rb 82 [.func (.func 62) #[] #[.pointer (some ⟨k1, 0, none⟩), .pointer (some ⟨k3, 0, none⟩), .pointer (some ⟨k5, 0, none⟩)], .func (.func 64) #[] #[.pointer (some ⟨k6, 0, none⟩), .pointer (some ⟨k4, 0, none⟩)], .func (.func 65) #[] #[.pointer (some ⟨k1, 0, none⟩), .pointer (some ⟨k3, 0, none⟩), .pointer (some ⟨k5, 0, none⟩)], .func (.func 66) #[] #[.pointer (some ⟨k4, 0, none⟩), .pointer (some ⟨k3, 0, none⟩), .pointer (some ⟨k1, 0, none⟩)]]) (m : Int) (hm : 0 ≤ m ∧ m ≤ 100) :
    Calls Tryz.prog 32 #[.agg #[.func (.func 62) #[] #[.pointer (some ⟨k1, 0, none⟩), .pointer (some ⟨k3, 0, none⟩), .pointer (some ⟨k5, 0, none⟩)], .func (.func 64) #[] #[.pointer (some ⟨k6, 0, none⟩), .pointer (some ⟨k4, 0, none⟩)], .func (.func 65) #[] #[.pointer (some ⟨k1, 0, none⟩), .pointer (some ⟨k3, 0, none⟩), .pointer (some ⟨k5, 0, none⟩)], .func (.func 66) #[] #[.pointer (some ⟨k4, 0, none⟩), .pointer (some ⟨k3, 0, none⟩), .pointer (some ⟨k1, 0, none⟩)]], .int .i64 m, .func (.func 33) #[] #[.pointer (some ⟨rb, 0, none⟩)]] w (RLp k1 k3 k4 k5 k6 w bv l p bad OLea 75 3 m (cLm m (cLe 16)).rd) := by
  have hlow := h.low
  have hb3 := h.r3.lt
  have hb4 := h.r4.lt
  have n3 := hrb.apart h.r3 (by decide)
  have n4 := hrb.apart h.r4 (by decide)
  obtain ⟨w0, hw0⟩ : ∃ w0, w0 = w.alloc (.cells #[.func (.func 62) #[] #[.pointer (some ⟨k1, 0, none⟩), .pointer (some ⟨k3, 0, none⟩), .pointer (some ⟨k5, 0, none⟩)], .func (.func 64) #[] #[.pointer (some ⟨k6, 0, none⟩), .pointer (some ⟨k4, 0, none⟩)], .func (.func 65) #[] #[.pointer (some ⟨k1, 0, none⟩), .pointer (some ⟨k3, 0, none⟩), .pointer (some ⟨k5, 0, none⟩)], .func (.func 66) #[] #[.pointer (some ⟨k4, 0, none⟩), .pointer (some ⟨k3, 0, none⟩), .pointer (some ⟨k1, 0, none⟩)]] 82) := ⟨_, rfl⟩
  have B0 : Below w.heap.size w w0 := by rw [hw0]; exact below_alloc _ _
  have hx : Row w0 w.heap.size 82 [.func (.func 62) #[] #[.pointer (some ⟨k1, 0, none⟩), .pointer (some ⟨k3, 0, none⟩), .pointer (some ⟨k5, 0, none⟩)], .func (.func 64) #[] #[.pointer (some ⟨k6, 0, none⟩), .pointer (some ⟨k4, 0, none⟩)], .func (.func 65) #[] #[.pointer (some ⟨k1, 0, none⟩), .pointer (some ⟨k3, 0, none⟩), .pointer (some ⟨k5, 0, none⟩)], .func (.func 66) #[] #[.pointer (some ⟨k4, 0, none⟩), .pointer (some ⟨k3, 0, none⟩), .pointer (some ⟨k1, 0, none⟩)]] := by rw [hw0]; exact Row.new w 82 _
  have hR := h.below B0
  have hrb0 := hrb.below B0
  have cf := hx.cell (j := 1) rfl
  have hC := rCnt_any hR m hm.1
  go_enter Tryz.func32, Tryz.ntmps32
  go_upto_region 1 with fail
  rw [← hw0]
  clear hw0
  go_wp2_with (go_at_call 64; refine hC.mono ?_; rintro e w1 ⟨n, p1, b1, rfl, hn, rg1, hR1, hc1⟩)
  obtain ⟨N, rfl⟩ := Int.eq_ofNat_of_zero_le hn.1
  have hC1 : Chg k3 k4 w w1 := (Chg.below B0).trans hc1
  have hrb1 := hc1.row hrb0 n3 n4
  have hNm : (N : Int) ≤ 100 := by omega
  have hNm2 : (N : Int) ≤ m := hn.2
  have HRB := (show Hid (rb < w.heap.size) from hrb.lt)
  have HRB := (show Hid (rb < w.heap.size) from hrb.lt)
  clear cf hC hR hrb0 hx B0 h hrb hn hc1 hm
  go_loopw [7, 12] (fun v i wr => ∃ (q : Nat) (ys : List PEnt) (p' : Nat) (bad' : Bool), q ≤ N ∧ i = .int .i64 q ∧ LB OLea 75 3 w.heap.size wr v ys ∧ ys.length = q ∧ Rdg (rdN (cLe 16) q) l p1 b1 ys p' bad' ∧ Rdr k1 k3 k4 k5 k6 wr bv l p' bad' ∧ Chg k3 k4 w wr ∧ Row wr rb 82 [.func (.func 62) #[] #[.pointer (some ⟨k1, 0, none⟩), .pointer (some ⟨k3, 0, none⟩), .pointer (some ⟨k5, 0, none⟩)], .func (.func 64) #[] #[.pointer (some ⟨k6, 0, none⟩), .pointer (some ⟨k4, 0, none⟩)], .func (.func 65) #[] #[.pointer (some ⟨k1, 0, none⟩), .pointer (some ⟨k3, 0, none⟩), .pointer (some ⟨k5, 0, none⟩)], .func (.func 66) #[] #[.pointer (some ⟨k4, 0, none⟩), .pointer (some ⟨k3, 0, none⟩), .pointer (some ⟨k1, 0, none⟩)]]) (fun _ i _ => N - (intOf i).toNat)
  case atStart => exact ⟨0, [], p1, b1, Nat.zero_le _, rfl, LB.nil _ _ _ _ _, rfl, Rdg.nil rg1.1, hR1, hC1, hrb1⟩
  case round =>
    clear hR1 hC1 hrb1
    obtain ⟨q, ys, p2, b2, hq, rfl, hLB, hys, rg2, hR2, hc2, hrb2⟩ := hrel
    by_cases hql : q < N
    · have hqi : (q : Int) < (N : Int) := by omega
      have hO := dLea_any hR2 rb hrb2
      have hfr := hLB.fr
      have hlt := hLB.lt
      have hsz := hc2.size
      have hbd : (ys.length + 1) * 40 ≤ 140737488355328 := by omega
      have HYS := (show Hid (ys.length = q) from hys)
      clear hys
      go_wp2_with (first
        | (go_at_call 33; refine hO.mono ?_; rintro e w5 ⟨row, y, p3, b3, rfl, hr5, rg3, hR3, hc3⟩; obtain ⟨l5, o5⟩ := len10OLea hr5; have hr5' := hr5; obtain ⟨s1, i1, i2, rfl, o1, o2⟩ := hr5'; obtain ⟨z1, y1, rfl, _⟩ := o1.rt.form; have hLB5 := hLB.chg mov_olea hc3 hb3 hb4)
        | (at_builtin; refine wl_push mov_olea rfl _ _ _ rfl 75 3 40 _ Tryz.underlying24 Tryz.inf10OLea rfl (by decide) w.heap.size u7 ys rfl hLB5 [.slice z1 y.1.length y1, .int .i64 i1, .int .i64 i2] y wr.heap.size hr5 l5 o5 hsz hlt rfl (Nat.le_trans hsz hc3.size) hbd (by decide) ?_; intro v7 w7 hLB7 hg7))
      go_roundw
      case rel => exact ⟨q + 1, ys ++ [y], p3, b3, by omega, by go_num, hLB7, by rw [List.length_append, HYS.out]; rfl, rg2.snoc rg3, hR3.above hlow hg7 (fun g hg => hfr g hg), (hc2.trans hc3).grown hg7 (fun g hg => hfr g hg), (hc3.row hrb2 n3 n4).grown hg7 (fun e => by have := hfr _ e; have := hrb2.lt; have := HRB.out; omega)⟩
      case measure => simp [intOf]; omega
    · have hqd : decide ((q : Int) < N) = false := by simp; omega
      have hqN : q = N := by omega
      go_wp2_with fail
      go_ret
      exact ⟨_, ys, p2, b2, rfl, hLB, by omega, Rdg.list rg1 (by rw [Int.toNat_natCast, ← hqN]; exact rg2), hR2, hc2⟩

set_option maxRecDepth 10000 in
set_option maxHeartbeats 2000000 in
theorem dSes_any {k1 k3 k4 k5 k6 : Nat} {w : World} {bv : Value} {l : List Int} {p : Nat} {bad : Bool} (h : Rdr k1 k3 k4 k5 k6 w bv l p bad) (rb : Nat) (hrb : Row w rb 82 [.func (.func 62) #[] #[.pointer (some ⟨k1, 0, none⟩), .pointer (some ⟨k3, 0, none⟩), .pointer (some ⟨k5, 0, none⟩)], .func (.func 64) #[] #[.pointer (some ⟨k6, 0, none⟩), .pointer (some ⟨k4, 0, none⟩)], .func (.func 65) #[] #[.pointer (some ⟨k1, 0, none⟩), .pointer (some ⟨k3, 0, none⟩), .pointer (some ⟨k5, 0, none⟩)], .func (.func 66) #[] #[.pointer (some ⟨k4, 0, none⟩), .pointer (some ⟨k3, 0, none⟩), .pointer (some ⟨k1, 0, none⟩)]]) :
    Calls Tryz.prog 35 #[.pointer (some ⟨rb, 0, none⟩)] w (RRp k1 k3 k4 k5 k6 w bv l p bad OSes (cSe 64).rd) := by
  have hlow := h.low
  have hb3 := h.r3.lt
  have hb4 := h.r4.lt
  have n3 := hrb.apart h.r3 (by decide)
  have n4 := hrb.apart h.r4 (by decide)
  have hrl := hrb.lt
  obtain ⟨w0, hw0⟩ : ∃ w0, w0 = (w.alloc (.cells #[.int .i64 0, .int .i64 0, .int .i64 0, .slice none 0 0] 77)).alloc (.cells #[.int .i64 0, .int .i64 0, .int .i64 0, .slice none 0 0] 77) := ⟨_, rfl⟩
  have B0 : Below w.heap.size w w0 := by rw [hw0]; exact below_and (below_alloc _ _) (Nat.le_refl _) (below_alloc _ _)
  have hs : Row w0 w.heap.size 77 [.int .i64 0, .int .i64 0, .int .i64 0, .slice none 0 0] := by rw [hw0]; exact rowA (Row.new w 77 _) _
  have hv : Row w0 (w.heap.size + 1) 77 [.int .i64 0, .int .i64 0, .int .i64 0, .slice none 0 0] := by
    rw [hw0]
    have := Row.new (w.alloc (.cells #[.int .i64 0, .int .i64 0, .int .i64 0, .slice none 0 0] 77)) 77 [.int .i64 0, .int .i64 0, .int .i64 0, .slice none 0 0]
    simpa using this
  have hR := h.below B0
  have hrb0 := hrb.below B0
  go_enter Tryz.func35, Tryz.ntmps35
  go_upto_region 2 with fail
  rw [← hw0]
  clear hw0
  obtain ⟨vb, hvb⟩ : ∃ vb, vb = w.heap.size + 1 := ⟨_, rfl⟩
  obtain ⟨sb, hsb⟩ : ∃ sb, sb = w.heap.size := ⟨_, rfl⟩
  rw [← hvb] at hv ⊢
  have hs : Row w0 sb 77 [.int .i64 0, .int .i64 0, .int .i64 0, .slice none 0 0] := by rw [hsb]; exact hs
  rw [← hsb]
  have hcI : Chg k3 k4 w w0 := Chg.below B0
  have hvs : vb ≠ sb := by omega
  have hv3 : vb ≠ k3 := by omega
  have hv4 : vb ≠ k4 := by omega
  have hs3 : sb ≠ k3 := by omega
  have hs4 : sb ≠ k4 := by omega
  have hvr : rb ≠ vb := by omega
  have hvw : w.heap.size ≤ vb := by omega
  have HSB := (show Hid (w.heap.size ≤ sb) by show _ ≤ _; omega)
  clear hvb hsb h hrb B0
  have cf := hrb0.cell (j := 0) rfl
  have hC := rNum_any hR
  go_upto_region 3 with (first
    | (go_at_call 62; refine hC.mono ?_; rintro e w1 ⟨t0, p0, b0, rfl, hn0, rg0, hR0, hc0⟩; have hvx := hc0.row hv hv3 hv4)
    | (refine wl_set rfl _ _ _ rfl vb 0 _ rfl rfl _ _ hvx (show 0 < 4 by decide) (by kernel_rfl) rfl ?_; intro w2 hr0 hg0))
  have hs0 := (hc0.row hs hs3 hs4).grown hg0 (fun e => hvs (by injection e))
  have hrb1 := (hc0.row hrb0 n3 n4).grown hg0 (fun e => hvr (by injection e with e; exact e.symm))
  have hR0' := hR0.above hlow hg0 (fun g hg => by cases hg; exact hvw)
  have hcc0 : Chg k3 k4 w w2 := (hcI.trans hc0).grown hg0 (fun g hg => by cases hg; exact hvw)
  have hv0' : Row w2 vb 77 [.int .i64 t0, .int .i64 0, .int .i64 0, .slice none 0 0] := hr0.out
  clear cf hC hR hv hs hrb0 hvx hR0 hr0
  have cf := hrb1.cell (j := 0) rfl
  have hC := rNum_any hR0'
  go_upto_region 4 with (first
    | (go_at_call 62; refine hC.mono ?_; rintro e w3 ⟨t1, p1, b1, rfl, hn1, rg1, hR1, hc1⟩; have hvx := hc1.row hv0' hv3 hv4)
    | (refine wl_set rfl _ _ _ rfl vb 1 _ rfl rfl _ _ hvx (show 1 < 4 by decide) (by kernel_rfl) rfl ?_; intro w4 hr1 hg1))
  have hs1 := (hc1.row hs0 hs3 hs4).grown hg1 (fun e => hvs (by injection e))
  have hrb2 := (hc1.row hrb1 n3 n4).grown hg1 (fun e => hvr (by injection e with e; exact e.symm))
  have hR1' := hR1.above hlow hg1 (fun g hg => by cases hg; exact hvw)
  have hcc1 : Chg k3 k4 w w4 := (hcc0.trans hc1).grown hg1 (fun g hg => by cases hg; exact hvw)
  have hv1' : Row w4 vb 77 [.int .i64 t0, .int .i64 t1, .int .i64 0, .slice none 0 0] := hr1.out
  clear cf hC hR0' hv0' hs0 hrb1 hvx hR1 hr1
  have cf := hrb2.cell (j := 0) rfl
  have hC := rNum_any hR1'
  go_upto_region 5 with (first
    | (go_at_call 62; refine hC.mono ?_; rintro e w5 ⟨t2, p2, b2, rfl, hn2, rg2, hR2, hc2⟩; have hvx := hc2.row hv1' hv3 hv4)
    | (refine wl_set rfl _ _ _ rfl vb 2 _ rfl rfl _ _ hvx (show 2 < 4 by decide) (by kernel_rfl) rfl ?_; intro w6 hr2 hg2))
  have hs2 := (hc2.row hs1 hs3 hs4).grown hg2 (fun e => hvs (by injection e))
  have hrb3 := (hc2.row hrb2 n3 n4).grown hg2 (fun e => hvr (by injection e with e; exact e.symm))
  have hR2' := hR2.above hlow hg2 (fun g hg => by cases hg; exact hvw)
  have hcc2 : Chg k3 k4 w w6 := (hcc1.trans hc2).grown hg2 (fun g hg => by cases hg; exact hvw)
  have hv2' : Row w6 vb 77 [.int .i64 t0, .int .i64 t1, .int .i64 t2, .slice none 0 0] := hr2.out
  clear cf hC hR1' hv1' hs1 hrb2 hvx hR2 hr2
  have cf := hrb3.cell (j := 2) rfl
  have hC := rText_any hR2' 64
  go_upto_region 6 with (first
    | (go_at_call 65; refine hC.mono ?_; rintro e w7 ⟨v3, t3, p3, b3, rfl, ot3, rg3, hR3, hc3⟩; obtain ⟨aa3, cc3, hvv3, _⟩ := ot3.rt.form; subst hvv3; have hvx := hc3.row hv2' hv3 hv4)
    | (refine wl_set rfl _ _ _ rfl vb 3 _ rfl rfl _ _ hvx (show 3 < 4 by decide) (by kernel_rfl) rfl ?_; intro w8 hr3 hg3))
  have hs3 := (hc3.row hs2 hs3 hs4).grown hg3 (fun e => hvs (by injection e))
  have hrb4 := (hc3.row hrb3 n3 n4).grown hg3 (fun e => hvr (by injection e with e; exact e.symm))
  have hR3' := hR3.above hlow hg3 (fun g hg => by cases hg; exact hvw)
  have hcc3 : Chg k3 k4 w w8 := (hcc2.trans hc3).grown hg3 (fun g hg => by cases hg; exact hvw)
  have hv3' : Row w8 vb 77 [.int .i64 t0, .int .i64 t1, .int .i64 t2, .slice aa3 t3.length cc3] := hr3.out
  have hsz3 : w.heap.size ≤ w6.heap.size := hcc2.size
  have ot3' := (ot3.gr hvx (by decide) hg3).mv (Mv.weak hsz3)
  clear cf hC hR2' hv2' hs2 hrb3 hvx hR3 hr3
  have hone : ∀ x ∈ ([.int .i64 t0, .int .i64 t1, .int .i64 t2, .slice aa3 t3.length cc3] : List Value), x.oneCell' = true := by
    intro x hx
    simp only [List.mem_cons, List.not_mem_nil, or_false] at hx
    rcases hx with rfl | rfl | rfl | rfl <;> rfl
  go_wp2_with (first
    | (refine wl_load rfl _ _ rfl vb rfl _ _ hv3' _ Tryz.underlying77 rfl (by kernel_rfl) ?_)
    | (refine wl_store rfl _ _ _ rfl sb [.int .i64 t0, .int .i64 t1, .int .i64 t2, .slice aa3 t3.length cc3] rfl rfl _ _ hs3 rfl (by kernel_rfl) hone ?_; intro wz hrz hgz))
  have hswz : w.heap.size ≤ sb := HSB.out
  refine bodyPost_ret (v := .agg ([.int .i64 t0, .int .i64 t1, .int .i64 t2, .slice aa3 t3.length cc3] : List Value).toArray) (results_cell_row rfl _ _ sb _ _ (0, 0) _ (by rfl) hrz.out Tryz.underlying77 rfl (by kernel_rfl)) rfl ?_
  exact ⟨_, fSe (t0, t1, t2, t3), _, _, rfl, ⟨_, _, _, _, _, rfl, ot3'.gr hs3 (by decide) hgz, rfl⟩, (rg0.pair (rg1.pair (rg2.pair rg3))).view fSe gSe, hR3'.above hlow hgz (fun g hg => by cases hg; exact hswz), hcc3.grown hgz (fun g hg => by cases hg; exact hswz)⟩

theorem Tryz.inf10OSes : (Tryz.prog.info? 77).map (fun i => (i.zero, i.size, i.bytes)) = some (some (.agg #[.int .i64 0, .int .i64 0, .int .i64 0, .slice none 0 0]), 4, 48) := by kernel_rfl
theorem len10OSes {G : Nat → Prop} {w : World} {r : List Value} {x : PEnt} (h : OSes G w r x) : r.length = 4 ∧ ∀ u ∈ r, u.oneCell' = true := by
  obtain ⟨c, d, k, a, t, rfl, o1, o2⟩ := h
  refine ⟨rfl, fun x hx => ?_⟩
  simp only [List.mem_cons, List.not_mem_nil, or_false] at hx
  rcases hx with rfl | rfl | rfl | rfl
  · rfl
  · rfl
  · rfl
  · exact o1.rt.one
set_option maxRecDepth 10000 in
set_option maxHeartbeats 2000000 in
theorem lSes_any {k1 k3 k4 k5 k6 : Nat} {w : World} {bv : Value} {l : List Int} {p : Nat} {bad : Bool} (h : Rdr k1 k3 k4 k5 k6 w bv l p bad) (rb : Nat) (hrb : Row w rb 82 [.func (.func 62) #[] #[.pointer (some ⟨k1, 0, none⟩), .pointer (some ⟨k3, 0, none⟩), .pointer (some ⟨k5, 0, none⟩)], .func (.func 64) #[] #[.pointer (some ⟨k6, 0, none⟩), .pointer (some ⟨k4, 0, none⟩)], .func (.func 65) #[] #[.pointer (some ⟨k1, 0, none⟩), .pointer (some ⟨k3, 0, none⟩), .pointer (some ⟨k5, 0, none⟩)], .func (.func 66) #[] #[.pointer (some ⟨k4, 0, none⟩), .pointer (some ⟨k3, 0, none⟩), .pointer (some ⟨k1, 0, none⟩)]]) (m : Int) (hm : 0 ≤ m ∧ m ≤ 100) :
    Calls Tryz.prog 34 #[.agg #[.func (.func 62) #[] #[.pointer (some ⟨k1, 0, none⟩), .pointer (some ⟨k3, 0, none⟩), .pointer (some ⟨k5, 0, none⟩)], .func (.func 64) #[] #[.pointer (some ⟨k6, 0, none⟩), .pointer (some ⟨k4, 0, none⟩)], .func (.func 65) #[] #[.pointer (some ⟨k1, 0, none⟩), .pointer (some ⟨k3, 0, none⟩), .pointer (some ⟨k5, 0, none⟩)], .func (.func 66) #[] #[.pointer (some ⟨k4, 0, none⟩), .pointer (some ⟨k3, 0, none⟩), .pointer (some ⟨k1, 0, none⟩)]], .int .i64 m, .func (.func 35) #[] #[.pointer (some ⟨rb, 0, none⟩)]] w (RLp k1 k3 k4 k5 k6 w bv l p bad OSes 77 4 m (cLm m (cSe 64)).rd) := by
  have hlow := h.low
  have hb3 := h.r3.lt
  have hb4 := h.r4.lt
  have n3 := hrb.apart h.r3 (by decide)
  have n4 := hrb.apart h.r4 (by decide)
  obtain ⟨w0, hw0⟩ : ∃ w0, w0 = w.alloc (.cells #[.func (.func 62) #[] #[.pointer (some ⟨k1, 0, none⟩), .pointer (some ⟨k3, 0, none⟩), .pointer (some ⟨k5, 0, none⟩)], .func (.func 64) #[] #[.pointer (some ⟨k6, 0, none⟩), .pointer (some ⟨k4, 0, none⟩)], .func (.func 65) #[] #[.pointer (some ⟨k1, 0, none⟩), .pointer (some ⟨k3, 0, none⟩), .pointer (some ⟨k5, 0, none⟩)], .func (.func 66) #[] #[.pointer (some ⟨k4, 0, none⟩), .pointer (some ⟨k3, 0, none⟩), .pointer (some ⟨k1, 0, none⟩)]] 82) := ⟨_, rfl⟩
  have B0 : Below w.heap.size w w0 := by rw [hw0]; exact below_alloc _ _
  have hx : Row w0 w.heap.size 82 [.func (.func 62) #[] #[.pointer (some ⟨k1, 0, none⟩), .pointer (some ⟨k3, 0, none⟩), .pointer (some ⟨k5, 0, none⟩)], .func (.func 64) #[] #[.pointer (some ⟨k6, 0, none⟩), .pointer (some ⟨k4, 0, none⟩)], .func (.func 65) #[] #[.pointer (some ⟨k1, 0, none⟩), .pointer (some ⟨k3, 0, none⟩), .pointer (some ⟨k5, 0, none⟩)], .func (.func 66) #[] #[.pointer (some ⟨k4, 0, none⟩), .pointer (some ⟨k3, 0, none⟩), .pointer (some ⟨k1, 0, none⟩)]] := by rw [hw0]; exact Row.new w 82 _
  have hR := h.below B0
  have hrb0 := hrb.below B0
  have cf := hx.cell (j := 1) rfl
  have hC := rCnt_any hR m hm.1
  go_enter Tryz.func34, Tryz.ntmps34
  go_upto_region 1 with fail
  rw [← hw0]
  clear hw0
  go_wp2_with (go_at_call 64; refine hC.mono ?_; rintro e w1 ⟨n, p1, b1, rfl, hn, rg1, hR1, hc1⟩)
  obtain ⟨N, rfl⟩ := Int.eq_ofNat_of_zero_le hn.1
  have hC1 : Chg k3 k4 w w1 := (Chg.below B0).trans hc1
  have hrb1 := hc1.row hrb0 n3 n4
  have hNm : (N : Int) ≤ 100 := by omega
  have hNm2 : (N : Int) ≤ m := hn.2
  have HRB := (show Hid (rb < w.heap.size) from hrb.lt)
  clear cf hC hR hrb0 hx B0 h hrb hn hc1 hm
  go_loopw [7, 12] (fun v i wr => ∃ (q : Nat) (ys : List PEnt) (p' : Nat) (bad' : Bool), q ≤ N ∧ i = .int .i64 q ∧ LB OSes 77 4 w.heap.size wr v ys ∧ ys.length = q ∧ Rdg (rdN (cSe 64) q) l p1 b1 ys p' bad' ∧ Rdr k1 k3 k4 k5 k6 wr bv l p' bad' ∧ Chg k3 k4 w wr ∧ Row wr rb 82 [.func (.func 62) #[] #[.pointer (some ⟨k1, 0, none⟩), .pointer (some ⟨k3, 0, none⟩), .pointer (some ⟨k5, 0, none⟩)], .func (.func 64) #[] #[.pointer (some ⟨k6, 0, none⟩), .pointer (some ⟨k4, 0, none⟩)], .func (.func 65) #[] #[.pointer (some ⟨k1, 0, none⟩), .pointer (some ⟨k3, 0, none⟩), .pointer (some ⟨k5, 0, none⟩)], .func (.func 66) #[] #[.pointer (some ⟨k4, 0, none⟩), .pointer (some ⟨k3, 0, none⟩), .pointer (some ⟨k1, 0, none⟩)]]) (fun _ i _ => N - (intOf i).toNat)
  case atStart => exact ⟨0, [], p1, b1, Nat.zero_le _, rfl, LB.nil _ _ _ _ _, rfl, Rdg.nil rg1.1, hR1, hC1, hrb1⟩
  case round =>
    clear hR1 hC1 hrb1
    obtain ⟨q, ys, p2, b2, hq, rfl, hLB, hys, rg2, hR2, hc2, hrb2⟩ := hrel
    by_cases hql : q < N
    · have hqi : (q : Int) < (N : Int) := by omega
      have hO := dSes_any hR2 rb hrb2
      have hfr := hLB.fr
      have hlt := hLB.lt
      have hsz := hc2.size
      have hbd : (ys.length + 1) * 48 ≤ 140737488355328 := by omega
      have HYS := (show Hid (ys.length = q) from hys)
      clear hys
      go_wp2_with (first
        | (go_at_call 35; refine hO.mono ?_; rintro e w5 ⟨row, y, p3, b3, rfl, hr5, rg3, hR3, hc3⟩; obtain ⟨l5, o5⟩ := len10OSes hr5; have hr5' := hr5; obtain ⟨i1, i2, i3, s1, tt, rfl, o1, rfl⟩ := hr5'; obtain ⟨z1, y1, rfl, _⟩ := o1.rt.form; have hLB5 := hLB.chg mov_oses hc3 hb3 hb4)
        | (at_builtin; refine wl_push mov_oses rfl _ _ _ rfl 77 4 48 _ Tryz.underlying25 Tryz.inf10OSes rfl (by decide) w.heap.size u7 ys rfl hLB5 [.int .i64 i1, .int .i64 i2, .int .i64 i3, .slice z1 tt.length y1] ([i1], i2 :: i3 :: tt) wr.heap.size hr5 l5 o5 hsz hlt rfl (Nat.le_trans hsz hc3.size) hbd (by decide) ?_; intro v7 w7 hLB7 hg7))
      go_roundw
      case rel => exact ⟨q + 1, ys ++ [([i1], i2 :: i3 :: tt)], p3, b3, by omega, by go_num, hLB7, by rw [List.length_append, HYS.out]; rfl, rg2.snoc rg3, hR3.above hlow hg7 (fun g hg => hfr g hg), (hc2.trans hc3).grown hg7 (fun g hg => hfr g hg), (hc3.row hrb2 n3 n4).grown hg7 (fun e => by have := hfr _ e; have := hrb2.lt; have := HRB.out; omega)⟩
      case measure => simp [intOf]; omega
    · have hqd : decide ((q : Int) < N) = false := by simp; omega
      have hqN : q = N := by omega
      go_wp2_with fail
      go_ret
      exact ⟨_, ys, p2, b2, rfl, hLB, by omega, Rdg.list rg1 (by rw [Int.toNat_natCast, ← hqN]; exact rg2), hR2, hc2⟩
end Go.Proofs.YteafgdidjdfiiaaGreat
end

section
set_option linter.unusedVariables false
set_option linter.unusedSimpArgs false
namespace Go.Proofs.YteafgdidjdfiiaaGreat
open Go.RowKit Oct Kvl

theorem results_ctU {P : Program} {fn : Func} {p t : Tmp} {ty : TypeId} (h : fn.results = #[.cell p ty, .tmp t]) (tmps : Array Value) (w : World) (g : Nat) (tt : TypeId) (cs : Array Value) (fr : Nat × Nat) (d : TypeDesc)
    (hp : tmps.getD p undef = .pointer (some ⟨g, 0, none⟩)) (hg : w.heap[g]? = some (.cells cs tt fr))
    (hu : P.underlying ty = some d) (hd : (match d with | .struct _ | .array _ _ => true | _ => false) = true) (hi : (P.info? ty).map (·.size) = some cs.size) :
    (results fn tmps).run P w = .ok (.tuple #[.agg cs, tmps.getD t undef]) w := by
  have hp' : tmps[p]?.getD undef = .pointer (some ⟨g, 0, none⟩) := by simpa using hp
  simp [results, h, hp', asAddr, run_loadVar_row w g tt ty cs fr d hg hu hd hi]
def RdP (w : World) (bv : Value) (l : List Int) (e : Ending) (w' : World) : Prop :=
  ∃ k1 k3 k4 k5 k6, e = .returned (.agg #[.func (.func 62) #[] #[.pointer (some ⟨k1, 0, none⟩), .pointer (some ⟨k3, 0, none⟩), .pointer (some ⟨k5, 0, none⟩)], .func (.func 64) #[] #[.pointer (some ⟨k6, 0, none⟩), .pointer (some ⟨k4, 0, none⟩)], .func (.func 65) #[] #[.pointer (some ⟨k1, 0, none⟩), .pointer (some ⟨k3, 0, none⟩), .pointer (some ⟨k5, 0, none⟩)], .func (.func 66) #[] #[.pointer (some ⟨k4, 0, none⟩), .pointer (some ⟨k3, 0, none⟩), .pointer (some ⟨k1, 0, none⟩)]]) ∧ Rdr k1 k3 k4 k5 k6 w' bv l 0 false ∧ (w.heap.size ≤ k3 ∧ w.heap.size ≤ k4) ∧ Below w.heap.size w w'

set_option maxRecDepth 10000 in
set_option maxHeartbeats 2000000 in
theorem readerOf_any (w : World) (bv : Value) (l : List Int) (h : Rd w bv l) (hl : l.length ≤ 140737488355300) :
    Calls Tryz.prog 29 #[bv] w (RdP w bv l) := by
  obtain ⟨ab, cb, rfl, hcb⟩ := h.2.form
  rw [bc_len] at h
  rw [bc_len]
  have hmf : ∀ (fn : Fn) (first cap : Array Value) (w : World), (Instr.makeFunc fn first cap).run Tryz.prog w = .ok (.func fn first cap) w := fun _ _ _ _ => rfl
  obtain ⟨w1, hw1⟩ : ∃ w1, w1 = (((w.alloc (.cells #[.slice ab l.length cb] 28)).alloc (.cells #[.nilFunc, .nilFunc, .nilFunc, .nilFunc] 82)).alloc (.cells #[.int .i64 0] 3)).alloc (.cells #[.bool false] 4) := ⟨_, rfl⟩
  have r1 : Row w1 w.heap.size 28 [.slice ab l.length cb] := by rw [hw1]; exact rowA (rowA (rowA (Row.new w 28 _) _) _) _
  have r2 : Row w1 (w.heap.size + 1) 82 [.nilFunc, .nilFunc, .nilFunc, .nilFunc] := by
    rw [hw1]
    have := Row.new (w.alloc (.cells #[.slice ab l.length cb] 28)) 82 [.nilFunc, .nilFunc, .nilFunc, .nilFunc]
    exact rowA (rowA (by simpa using this) _) _
  have r3 : Row w1 (w.heap.size + 1 + 1) 3 [.int .i64 0] := by
    rw [hw1]
    have := Row.new ((w.alloc (.cells #[.slice ab l.length cb] 28)).alloc (.cells #[.nilFunc, .nilFunc, .nilFunc, .nilFunc] 82)) 3 [.int .i64 0]
    exact rowA (by simpa using this) _
  have r4 : Row w1 (w.heap.size + 1 + 1 + 1) 4 [.bool false] := by
    rw [hw1]
    have := Row.new (((w.alloc (.cells #[.slice ab l.length cb] 28)).alloc (.cells #[.nilFunc, .nilFunc, .nilFunc, .nilFunc] 82)).alloc (.cells #[.int .i64 0] 3)) 4 [.bool false]
    simpa using this
  have B1 : Below w.heap.size w w1 := by rw [hw1]; exact below_and (below_and (below_and (below_alloc _ _) (Nat.le_refl _) (below_alloc _ _)) (Nat.le_refl _) (below_alloc _ _)) (Nat.le_refl _) (below_alloc _ _)
  have hlt : l ≠ [] → ∀ k, (Value.slice ab l.length cb).ownBlock = some k → k < w.heap.size := fun hx k hk => h.lt hx k hk
  go_enter Tryz.func29, Tryz.ntmps29
  go_upto_region 2 with fail
  rw [← hw1]
  clear hw1
  obtain ⟨k4, hk4⟩ : ∃ k4, k4 = w.heap.size + 1 + 1 + 1 := ⟨_, rfl⟩
  obtain ⟨k3, hk3⟩ : ∃ k3, k3 = w.heap.size + 1 + 1 := ⟨_, rfl⟩
  obtain ⟨k2, hk2⟩ : ∃ k2, k2 = w.heap.size + 1 := ⟨_, rfl⟩
  obtain ⟨k1, hk1⟩ : ∃ k1, k1 = w.heap.size := ⟨_, rfl⟩
  have r1 : Row w1 k1 28 [.slice ab l.length cb] := by rw [hk1]; exact r1
  rw [← hk4] at r4 ⊢
  rw [← hk3] at r3 ⊢
  rw [← hk2] at r2 ⊢
  rw [← hk1]
  have HK := (show Hid (w.heap.size ≤ k3 ∧ w.heap.size ≤ k4) by show _ ∧ _; omega)
  have h2 : k2 < w1.heap.size := r2.lt
  have HK2 := (show Hid (w.heap.size ≤ k2) by show _ ≤ _; omega)
  have HN := (show Hid (∀ u, Below w.heap.size w u → RT (fun k => k ≠ k3 ∧ k ≠ k4) u (.slice ab l.length cb) l) from fun u hu => ⟨h.below hu, fun hx k hk => by have := hlt hx k hk; omega⟩)
  clear hk1 hk2 hk3 hk4 hlt
  have row5 := Row.new w1 114 [.nilFunc]
  go_upto_region 3 with (refine wl_set rfl _ _ _ rfl w1.heap.size 0 _ rfl rfl _ _ row5 (show 0 < 1 by decide) (by kernel_rfl) rfl ?_; intro w2 hr2 hg2)
  have r5 : Row w2 w1.heap.size 114 [.func (.func 61) #[] #[.pointer (some ⟨k3, 0, none⟩), .pointer (some ⟨k4, 0, none⟩)]] := hr2.out
  have hb2 : Below w1.heap.size w1 w2 := (below_alloc w1 (.cells ([.nilFunc] : List Value).toArray 114)).trans (grown_below hg2 (by simp) (fun k hk => by cases hk; exact Nat.le_refl _))
  obtain ⟨k5, hk5⟩ : ∃ k5, k5 = w1.heap.size := ⟨_, rfl⟩
  have n25 : k2 ≠ k5 := by omega
  have r5 : Row w2 k5 114 [.func (.func 61) #[] #[.pointer (some ⟨k3, 0, none⟩), .pointer (some ⟨k4, 0, none⟩)]] := by rw [hk5]; exact r5
  rw [← hk5]
  clear row5 hr2 hg2 hk5
  have row6 := Row.new w2 78 [.nilFunc]
  have h2' : k2 < w2.heap.size := Nat.lt_of_lt_of_le h2 hb2.size
  go_upto_region 4 with (refine wl_set rfl _ _ _ rfl w2.heap.size 0 _ rfl rfl _ _ row6 (show 0 < 1 by decide) (by kernel_rfl) rfl ?_; intro w3 hr3 hg3)
  have r6 : Row w3 w2.heap.size 78 [.func (.func 62) #[] #[.pointer (some ⟨k1, 0, none⟩), .pointer (some ⟨k3, 0, none⟩), .pointer (some ⟨k5, 0, none⟩)]] := hr3.out
  have hb3 : Below w2.heap.size w2 w3 := (below_alloc w2 (.cells ([.nilFunc] : List Value).toArray 78)).trans (grown_below hg3 (by simp) (fun k hk => by cases hk; exact Nat.le_refl _))
  obtain ⟨k6, hk6⟩ : ∃ k6, k6 = w2.heap.size := ⟨_, rfl⟩
  have r6 : Row w3 k6 78 [.func (.func 62) #[] #[.pointer (some ⟨k1, 0, none⟩), .pointer (some ⟨k3, 0, none⟩), .pointer (some ⟨k5, 0, none⟩)]] := by rw [hk6]; exact r6
  rw [← hk6]
  have hb13 := below_and hb2 (Nat.le_refl _) hb3
  have B3 := below_and B1 (Nat.le_refl _) hb13
  have hR : Rdr k1 k3 k4 k5 k6 w3 (.slice ab l.length cb) l 0 false := ⟨r1.below hb13, r3.below hb13, r4.below hb13, r5.below hb3, r6, HN.out w3 B3, Nat.zero_le _, hl⟩
  have s2 := r2.below hb13
  have c6 := r6.cell (j := 0) rfl
  have n26 : k2 ≠ k6 := by omega
  have n23 := s2.apart hR.r3 (by decide)
  have n24 := s2.apart hR.r4 (by decide)
  have n21 := s2.apart hR.r1 (by decide)
  clear row6 hr3 hg3 hk6 r1 r2 r3 r4 r5 r6 hb2 hb3 hb13 B1
  have hone : ∀ x ∈ ([.func (.func 62) #[] #[.pointer (some ⟨k1, 0, none⟩), .pointer (some ⟨k3, 0, none⟩), .pointer (some ⟨k5, 0, none⟩)], .func (.func 64) #[] #[.pointer (some ⟨k6, 0, none⟩), .pointer (some ⟨k4, 0, none⟩)], .func (.func 65) #[] #[.pointer (some ⟨k1, 0, none⟩), .pointer (some ⟨k3, 0, none⟩), .pointer (some ⟨k5, 0, none⟩)], .func (.func 66) #[] #[.pointer (some ⟨k4, 0, none⟩), .pointer (some ⟨k3, 0, none⟩), .pointer (some ⟨k1, 0, none⟩)]] : List Value), x.oneCell' = true := by
    intro x hx
    simp only [List.mem_cons, List.not_mem_nil, or_false] at hx
    rcases hx with rfl | rfl | rfl | rfl <;> rfl
  go_wp2_with (refine wl_store rfl _ _ _ rfl k2 [.func (.func 62) #[] #[.pointer (some ⟨k1, 0, none⟩), .pointer (some ⟨k3, 0, none⟩), .pointer (some ⟨k5, 0, none⟩)], .func (.func 64) #[] #[.pointer (some ⟨k6, 0, none⟩), .pointer (some ⟨k4, 0, none⟩)], .func (.func 65) #[] #[.pointer (some ⟨k1, 0, none⟩), .pointer (some ⟨k3, 0, none⟩), .pointer (some ⟨k5, 0, none⟩)], .func (.func 66) #[] #[.pointer (some ⟨k4, 0, none⟩), .pointer (some ⟨k3, 0, none⟩), .pointer (some ⟨k1, 0, none⟩)]] rfl rfl _ _ s2 rfl (by kernel_rfl) hone ?_; intro w4 hr4 hg4)
  refine bodyPost_ret (v := .agg ([.func (.func 62) #[] #[.pointer (some ⟨k1, 0, none⟩), .pointer (some ⟨k3, 0, none⟩), .pointer (some ⟨k5, 0, none⟩)], .func (.func 64) #[] #[.pointer (some ⟨k6, 0, none⟩), .pointer (some ⟨k4, 0, none⟩)], .func (.func 65) #[] #[.pointer (some ⟨k1, 0, none⟩), .pointer (some ⟨k3, 0, none⟩), .pointer (some ⟨k5, 0, none⟩)], .func (.func 66) #[] #[.pointer (some ⟨k4, 0, none⟩), .pointer (some ⟨k3, 0, none⟩), .pointer (some ⟨k1, 0, none⟩)]] : List Value).toArray) (results_cell_row rfl _ _ k2 _ _ (0, 0) _ (by rfl) hr4.out Tryz.underlying82 rfl (by kernel_rfl)) rfl ?_
  have hlt2 : l ≠ [] → (Value.slice ab l.length cb).ownBlock ≠ some k2 := fun hx e => by have := h.lt hx _ e; have := HK2.out; omega
  exact ⟨k1, k3, k4, k5, k6, rfl, hR.grown hg4 ⟨n21, n23, n24, n25, n26⟩ hlt2, HK.out, B3.trans (grown_below hg4 B3.size (fun k hk => by cases hk; exact HK2.out))⟩

/-- What Decode answers. -/
def dcA (l : List Int) : PApp := (decA l).getD (0, [], [], [])
def dcE (l : List Int) : Int := if (decA l).isSome then 0 else 101
def DcP (w : World) (l : List Int) (e : Ending) (w' : World) : Prop :=
  ∃ row, e = .returned (.tuple #[.agg row.toArray, .int .i64 (dcE l)]) ∧ OApp w.heap.size w' row (dcA l) ∧ Below w.heap.size w w'
theorem LB.apartU {α : Type} {R : (Nat → Prop) → World → List Value → α → Prop} {T : TypeId} {k B : Nat} {w : World} {v : Value} {ys : List α} (h : LB R T k B w v ys) {j : Nat} {t : TypeId} {xs : List Value} (hr : Row w j t xs) (ht : t ≠ T) : v.ownBlock ≠ some j := fun e => by
  obtain ⟨rows, r0, hown, hfr, hall⟩ := h
  rcases hown.2 with ⟨rfl, _⟩ | ⟨g, cap, cur, rfl, _, hgg, _⟩
  · simp [Value.ownBlock] at e
  · simp [Value.ownBlock] at e
    subst e
    unfold Row at hr
    rw [hr] at hgg
    simp at hgg
    exact ht hgg.2
theorem LB.gr {R : (Nat → Prop) → World → List Value → PEnt → Prop} (hR : ∀ (G : Nat → Prop) (w : World) (r : List Value) (x : PEnt) (b : Nat) (t : TypeId) (xs : List Value), R G w r x → Row w b t xs → t ≠ 5 → R (fun k => G k ∧ k ≠ b) w r x) (hM : Mov R) {T : TypeId} {k B b : Nat} {w w' : World} {v : Value} {ys : List PEnt} {t : TypeId} {xs : List Value} (h : LB R T k B w v ys) (hg : w.grownBy w' (some b)) (hr : Row w b t xs) (h1 : t ≠ 5) (h2 : t ≠ T) : LB R T k B w' v ys := by
  have hne := h.apartU hr h2
  obtain ⟨rows, r0, hown, hfr, hall⟩ := h
  refine ⟨rows, r0, World.ownsRow.kept hown hg ?_, hfr, hall.mono fun q x hq => ?_⟩
  · cases hv : v.ownBlock with
    | none => exact .inl rfl
    | some k => exact .inr fun e => hne (hv.trans e)
  · exact hM _ _ _ _ _ _ (hR _ _ _ _ _ _ _ hq hr h1) hg.size (fun k hk hlt => ⟨hg.block k hlt (fun e => hk.2 (by injection e)), hk.1⟩)
theorem OApp.gr {B : Nat} {w w' : World} {r : List Value} {a : PApp} (h : OApp B w r a) {b : Nat} {xs : List Value} (hg : w.grownBy w' (some b)) (hr : Row w b 27 xs) : OApp B w' r a := by
  obtain ⟨ve, vl, vs, e, h1, h2, h3⟩ := h
  refine ⟨ve, vl, vs, e, h1.gr (fun G w r x b t xs hq hr ht => ?_) mov_oent hg hr (by decide) (by decide), h2.gr (fun G w r x b t xs hq hr ht => ?_) mov_olea hg hr (by decide) (by decide), h3.gr (fun G w r x b t xs hq hr ht => ?_) mov_oses hg hr (by decide) (by decide)⟩
  · obtain ⟨a, b, rfl, o1, o2⟩ := hq
    exact ⟨a, b, rfl, o1.ne hr ht, o2.ne hr ht⟩
  · obtain ⟨a, p, q, rfl, o1, o2⟩ := hq
    exact ⟨a, p, q, rfl, o1.ne hr ht, o2⟩
  · obtain ⟨c, d, k, a, t, rfl, o1, o2⟩ := hq
    exact ⟨c, d, k, a, t, rfl, o1.ne hr ht, o2⟩
theorem OApp.zero (B : Nat) (w : World) : OApp B w [.int .i64 0, .slice none 0 0, .slice none 0 0, .slice none 0 0] (0, [], [], []) := ⟨_, _, _, rfl, LB.nil _ _ _ _ _, LB.nil _ _ _ _ _, LB.nil _ _ _ _ _⟩
theorem LB.fm {α : Type} {R : (Nat → Prop) → World → List Value → α → Prop} (hR : Mov R) {T : TypeId} {k B : Nat} {w : World} {v : Value} {ys : List α} (h : LB R T k B w v ys) : ∃ ao cap, v = .slice ao ys.length cap := by
  obtain ⟨ao, cap, e, _⟩ := (h.rl hR).form
  exact ⟨ao, cap, e⟩

set_option maxRecDepth 10000 in
set_option maxHeartbeats 4000000 in
/-- snap.Decode. -/
theorem snapDecode_any (w : World) (bv : Value) (l : List Int) (h : Rd w bv l) (hl : l.length ≤ 140737488355300) :
    Calls Tryz.prog 13 #[bv] w (DcP w l) := by
  have le := Nat.le_refl w.heap.size
  have hmf : ∀ (fn : Fn) (first cap : Array Value) (w : World), (Instr.makeFunc fn first cap).run Tryz.prog w = .ok (.func fn first cap) w := fun _ _ _ _ => rfl
  obtain ⟨w0, hw0⟩ : ∃ w0, w0 = w.alloc (.cells #[.int .i64 0, .slice none 0 0, .slice none 0 0, .slice none 0 0] 27) := ⟨_, rfl⟩
  have s0 : Row w0 w.heap.size 27 [.int .i64 0, .slice none 0 0, .slice none 0 0, .slice none 0 0] := by rw [hw0]; exact Row.new w 27 _
  have B0 : Below w.heap.size w w0 := by rw [hw0]; exact below_alloc _ _
  have hC := readerOf_any w0 bv l (h.below B0) hl
  go_enter Tryz.func13, Tryz.ntmps13
  go_upto_region 1 with fail
  rw [← hw0]
  clear hw0
  obtain ⟨sb, hsb⟩ : ∃ sb, sb = w.heap.size := ⟨_, rfl⟩
  have s0 : Row w0 sb 27 [.int .i64 0, .slice none 0 0, .slice none 0 0, .slice none 0 0] := by rw [hsb]; exact s0
  rw [← hsb]
  have HS := (show Hid (w.heap.size ≤ sb) by show _ ≤ _; omega)
  clear hsb
  go_upto_region 2 with (first
    | (go_at_call 29; refine hC.mono ?_; rintro e w1 ⟨k1, k3, k4, k5, k6, rfl, hR, hkk, hb1⟩; have rowr := Row.new w1 82 [.nilFunc, .nilFunc, .nilFunc, .nilFunc]; have hone : ∀ x ∈ ([.func (.func 62) #[] #[.pointer (some ⟨k1, 0, none⟩), .pointer (some ⟨k3, 0, none⟩), .pointer (some ⟨k5, 0, none⟩)], .func (.func 64) #[] #[.pointer (some ⟨k6, 0, none⟩), .pointer (some ⟨k4, 0, none⟩)], .func (.func 65) #[] #[.pointer (some ⟨k1, 0, none⟩), .pointer (some ⟨k3, 0, none⟩), .pointer (some ⟨k5, 0, none⟩)], .func (.func 66) #[] #[.pointer (some ⟨k4, 0, none⟩), .pointer (some ⟨k3, 0, none⟩), .pointer (some ⟨k1, 0, none⟩)]] : List Value), x.oneCell' = true := by (intro x hx; simp only [List.mem_cons, List.not_mem_nil, or_false] at hx; rcases hx with rfl | rfl | rfl | rfl <;> rfl))
    | (refine wl_store rfl _ _ _ rfl w1.heap.size [.func (.func 62) #[] #[.pointer (some ⟨k1, 0, none⟩), .pointer (some ⟨k3, 0, none⟩), .pointer (some ⟨k5, 0, none⟩)], .func (.func 64) #[] #[.pointer (some ⟨k6, 0, none⟩), .pointer (some ⟨k4, 0, none⟩)], .func (.func 65) #[] #[.pointer (some ⟨k1, 0, none⟩), .pointer (some ⟨k3, 0, none⟩), .pointer (some ⟨k5, 0, none⟩)], .func (.func 66) #[] #[.pointer (some ⟨k4, 0, none⟩), .pointer (some ⟨k3, 0, none⟩), .pointer (some ⟨k1, 0, none⟩)]] rfl rfl _ _ rowr rfl (by kernel_rfl) hone ?_; intro w2 hr2 hg2))
  have hb2 : Below w1.heap.size w1 w2 := (below_alloc w1 (.cells ([.nilFunc, .nilFunc, .nilFunc, .nilFunc] : List Value).toArray 82)).trans (grown_below hg2 (by simp) (fun k hk => by cases hk; exact Nat.le_refl _))
  have q2 : Row w2 w1.heap.size 82 [.func (.func 62) #[] #[.pointer (some ⟨k1, 0, none⟩), .pointer (some ⟨k3, 0, none⟩), .pointer (some ⟨k5, 0, none⟩)], .func (.func 64) #[] #[.pointer (some ⟨k6, 0, none⟩), .pointer (some ⟨k4, 0, none⟩)], .func (.func 65) #[] #[.pointer (some ⟨k1, 0, none⟩), .pointer (some ⟨k3, 0, none⟩), .pointer (some ⟨k5, 0, none⟩)], .func (.func 66) #[] #[.pointer (some ⟨k4, 0, none⟩), .pointer (some ⟨k3, 0, none⟩), .pointer (some ⟨k1, 0, none⟩)]] := hr2.out
  obtain ⟨rb, hrb⟩ : ∃ rb, rb = w1.heap.size := ⟨_, rfl⟩
  have q2 : Row w2 rb 82 [.func (.func 62) #[] #[.pointer (some ⟨k1, 0, none⟩), .pointer (some ⟨k3, 0, none⟩), .pointer (some ⟨k5, 0, none⟩)], .func (.func 64) #[] #[.pointer (some ⟨k6, 0, none⟩), .pointer (some ⟨k4, 0, none⟩)], .func (.func 65) #[] #[.pointer (some ⟨k1, 0, none⟩), .pointer (some ⟨k3, 0, none⟩), .pointer (some ⟨k5, 0, none⟩)], .func (.func 66) #[] #[.pointer (some ⟨k4, 0, none⟩), .pointer (some ⟨k3, 0, none⟩), .pointer (some ⟨k1, 0, none⟩)]] := by rw [hrb]; exact q2
  rw [← hrb]
  have hR := hR.below hb2
  have s2 := (s0.below hb1).below hb2
  have B2 := below_and (below_and B0 le hb1) le hb2
  have HKK := (show Hid (w.heap.size ≤ k3 ∧ w.heap.size ≤ k4) by show _ ∧ _; have := B0.size; omega)
  clear rowr hone hr2 hg2 hrb hb1 hb2 hC s0 B0 hkk
  go_upto_region 3 with fail
  obtain ⟨w3, hw3⟩ : ∃ w3, w3 = w2.alloc (.cells #[.int .i64 0, .slice none 0 0, .slice none 0 0, .slice none 0 0] 27) := ⟨_, rfl⟩
  have a3 : Row w3 w2.heap.size 27 [.int .i64 0, .slice none 0 0, .slice none 0 0, .slice none 0 0] := by rw [hw3]; exact Row.new w2 27 _
  have hb3 : Below w2.heap.size w2 w3 := by rw [hw3]; exact below_alloc _ _
  rw [← hw3]
  have hlow := hR.low
  have hR3 := hR.below hb3
  have q3 := q2.below hb3
  have s3 := s2.below hb3
  have B3 := below_and B2 le hb3
  have n3 := q3.apart hR3.r3 (by decide)
  have n4 := q3.apart hR3.r4 (by decide)
  have m3 := s3.apart hR3.r3 (by decide)
  have m4 := s3.apart hR3.r4 (by decide)
  obtain ⟨ab, hab⟩ : ∃ ab, ab = w2.heap.size := ⟨_, rfl⟩
  have a3 : Row w3 ab 27 [.int .i64 0, .slice none 0 0, .slice none 0 0, .slice none 0 0] := by rw [hab]; exact a3
  rw [← hab]
  have o3 := a3.apart hR3.r3 (by decide)
  have o4 := a3.apart hR3.r4 (by decide)
  have HAB := (show Hid (w2.heap.size ≤ ab) by show _ ≤ _; omega)
  have hqa : rb ≠ ab := by have := q2.lt; omega
  have hsa : sb ≠ ab := by have := s2.lt; omega
  have hab3 : ab < w3.heap.size := a3.lt
  have hWB : w.heap.size ≤ ab := by have := B2.size; omega
  clear hw3 hb3 hR q2 s2 hab
  have cf := q3.cell (j := 0) rfl
  have hC := rNum_any hR3
  go_upto_region 4 with (first
    | (go_at_call 62; refine hC.mono ?_; rintro e w4 ⟨n, p4, b4, rfl, hn, rg4, hR4, hc4⟩; have ax := hc4.row a3 o3 o4)
    | (refine wl_set rfl _ _ _ rfl ab 0 _ rfl rfl _ _ ax (show 0 < 4 by decide) (by kernel_rfl) rfl ?_; intro w5 hr5 hg5))
  have a5 : Row w5 ab 27 [.int .i64 n, .slice none 0 0, .slice none 0 0, .slice none 0 0] := hr5.out
  have hR5 := hR4.above hlow hg5 (fun g hg => by cases hg; exact HAB.out)
  have q5 := (hc4.row q3 n3 n4).grown hg5 (fun e => hqa (by injection e with e; exact e.symm))
  have s5 := (hc4.row s3 m3 m4).grown hg5 (fun e => hsa (by injection e with e; exact e.symm))
  have B5 : Below w.heap.size w w5 := (B3.trans (hc4.bel B3.size HKK.out.1 HKK.out.2)).trans (grown_below hg5 (Nat.le_trans B3.size hc4.size) (fun k hk => by cases hk; exact hWB))
  have hab5 : ab < w5.heap.size := a5.lt
  clear cf hC hR3 hR4 q3 s3 a3 ax hr5 hg5 hc4 B3 hab3
  have hC := lEnt_any hR5 rb q5 64 (by omega)
  go_upto_region 5 with (first
    | (refine wl_load rfl _ _ rfl rb rfl _ _ q5 _ Tryz.underlying82 rfl (by kernel_rfl) ?_)
    | (go_at_call 30; refine hC.mono ?_; rintro e w6 ⟨v6, y6, p6, b6, rfl, hL6, hm6, rg6, hR6, hc6⟩; obtain ⟨x6, z6, hvf6⟩ := hL6.fm mov_oent; subst hvf6; have ax := hc6.row a5 o3 o4)
    | (refine wl_set rfl _ _ _ rfl ab 1 _ rfl rfl _ _ ax (show 1 < 4 by decide) (by kernel_rfl) rfl ?_; intro w7 hr7 hg7))
  have a7 : Row w7 ab 27 [.int .i64 n, .slice x6 y6.length z6, .slice none 0 0, .slice none 0 0] := hr7.out
  have hR7 := hR6.above hlow hg7 (fun g hg => by cases hg; exact HAB.out)
  have q7 := (hc6.row q5 n3 n4).grown hg7 (fun e => hqa (by injection e with e; exact e.symm))
  have s7 := (hc6.row s5 m3 m4).grown hg7 (fun e => hsa (by injection e with e; exact e.symm))
  have B7 : Below w.heap.size w w7 := (B5.trans (hc6.bel B5.size HKK.out.1 HKK.out.2)).trans (grown_below hg7 (Nat.le_trans B5.size hc6.size) (fun k hk => by cases hk; exact hWB))
  have hab7 : ab < w7.heap.size := a7.lt
  have k3b : k3 < w5.heap.size := hR5.r3.lt
  have k4b : k4 < w5.heap.size := hR5.r4.lt
  have hL7 := hL6.grown mov_oent hg7 hab5
  have hL7s : w5.heap.size ≤ w5.heap.size := Nat.le_refl _
  have KB3 := (show Hid (k3 < w5.heap.size) from k3b)
  have KB4 := (show Hid (k4 < w5.heap.size) from k4b)
  have SZ1 := (show Hid (w5.heap.size ≤ w7.heap.size) from Nat.le_trans (Nat.le_trans hL7s hc6.size) hg7.size)
  clear hC hR5 hR6 q5 s5 a5 ax hr7 k3b k4b hL6  hc6 hg7
  have hC := lLea_any hR7 rb q7 16 (by omega)
  go_upto_region 6 with (first
    | (refine wl_load rfl _ _ rfl rb rfl _ _ q7 _ Tryz.underlying82 rfl (by kernel_rfl) ?_)
    | (go_at_call 32; refine hC.mono ?_; rintro e w9 ⟨v9, y9, p9, b9, rfl, hL9, hm9, rg9, hR9, hc9⟩; obtain ⟨x9, z9, hvf9⟩ := hL9.fm mov_olea; subst hvf9; have ax := hc9.row a7 o3 o4)
    | (refine wl_set rfl _ _ _ rfl ab 2 _ rfl rfl _ _ ax (show 2 < 4 by decide) (by kernel_rfl) rfl ?_; intro w10 hr10 hg10))
  have a10 : Row w10 ab 27 [.int .i64 n, .slice x6 y6.length z6, .slice x9 y9.length z9, .slice none 0 0] := hr10.out
  have hR10 := hR9.above hlow hg10 (fun g hg => by cases hg; exact HAB.out)
  have q10 := (hc9.row q7 n3 n4).grown hg10 (fun e => hqa (by injection e with e; exact e.symm))
  have s10 := (hc9.row s7 m3 m4).grown hg10 (fun e => hsa (by injection e with e; exact e.symm))
  have B10 : Below w.heap.size w w10 := (B7.trans (hc9.bel B7.size HKK.out.1 HKK.out.2)).trans (grown_below hg10 (Nat.le_trans B7.size hc9.size) (fun k hk => by cases hk; exact hWB))
  have hab10 : ab < w10.heap.size := a10.lt
  have k3b : k3 < w7.heap.size := hR7.r3.lt
  have k4b : k4 < w7.heap.size := hR7.r4.lt
  have hL7_10 := (hL7.chg mov_oent hc9 (Nat.lt_of_lt_of_le KB3.out hL7s) (Nat.lt_of_lt_of_le KB4.out hL7s)).grown mov_oent hg10 (Nat.lt_of_lt_of_le hab5 hL7s)
  have hL7_10s := hL7s
  have hL10 := hL9.grown mov_olea hg10 hab7
  have hL10s : w5.heap.size ≤ w7.heap.size := SZ1.out
  have SZ2 := (show Hid (w5.heap.size ≤ w10.heap.size) from Nat.le_trans (Nat.le_trans hL10s hc9.size) hg10.size)
  clear hC hR7 hR9 q7 s7 a7 ax hr10 k3b k4b hL9 hL7 hc9 hg10
  clear hab7
  have hC := lSes_any hR10 rb q10 4 (by omega)
  go_upto_region 7 with (first
    | (refine wl_load rfl _ _ rfl rb rfl _ _ q10 _ Tryz.underlying82 rfl (by kernel_rfl) ?_)
    | (go_at_call 34; refine hC.mono ?_; rintro e w12 ⟨v12, y12, p12, b12, rfl, hL12, hm12, rg12, hR12, hc12⟩; obtain ⟨x12, z12, hvf12⟩ := hL12.fm mov_oses; subst hvf12; have ax := hc12.row a10 o3 o4)
    | (refine wl_set rfl _ _ _ rfl ab 3 _ rfl rfl _ _ ax (show 3 < 4 by decide) (by kernel_rfl) rfl ?_; intro w13 hr13 hg13))
  have a13 : Row w13 ab 27 [.int .i64 n, .slice x6 y6.length z6, .slice x9 y9.length z9, .slice x12 y12.length z12] := hr13.out
  have hR13 := hR12.above hlow hg13 (fun g hg => by cases hg; exact HAB.out)
  have q13 := (hc12.row q10 n3 n4).grown hg13 (fun e => hqa (by injection e with e; exact e.symm))
  have s13 := (hc12.row s10 m3 m4).grown hg13 (fun e => hsa (by injection e with e; exact e.symm))
  have B13 : Below w.heap.size w w13 := (B10.trans (hc12.bel B10.size HKK.out.1 HKK.out.2)).trans (grown_below hg13 (Nat.le_trans B10.size hc12.size) (fun k hk => by cases hk; exact hWB))
  have hab13 : ab < w13.heap.size := a13.lt
  have k3b : k3 < w10.heap.size := hR10.r3.lt
  have k4b : k4 < w10.heap.size := hR10.r4.lt
  have hL7_10_13 := (hL7_10.chg mov_oent hc12 (Nat.lt_of_lt_of_le KB3.out hL7_10s) (Nat.lt_of_lt_of_le KB4.out hL7_10s)).grown mov_oent hg13 (Nat.lt_of_lt_of_le hab5 hL7_10s)
  have hL7_10_13s := hL7_10s
  have hL10_13 := (hL10.chg mov_olea hc12 (Nat.lt_of_lt_of_le KB3.out hL10s) (Nat.lt_of_lt_of_le KB4.out hL10s)).grown mov_olea hg13 (Nat.lt_of_lt_of_le hab5 hL10s)
  have hL10_13s := hL10s
  have hL13 := hL12.grown mov_oses hg13 hab10
  have hL13s : w5.heap.size ≤ w10.heap.size := SZ2.out
  have SZ3 := (show Hid (w5.heap.size ≤ w13.heap.size) from Nat.le_trans (Nat.le_trans hL13s hc12.size) hg13.size)
  clear hC hR10 hR12 q10 s10 a10 ax hr13 k3b k4b hL12 hL7_10 hL10 hc12 hg13
  clear hab10
  have hO : OApp w.heap.size w13 [.int .i64 n, .slice x6 y6.length z6, .slice x9 y9.length z9, .slice x12 y12.length z12] (n, y6, y9, y12) := ⟨_, _, _, rfl, hL7_10_13.weak mov_oent (Nat.le_trans B5.size hL7_10_13s), hL10_13.weak mov_olea (Nat.le_trans B5.size hL10_13s), hL13.weak mov_oses (Nat.le_trans B5.size hL13s)⟩
  have rgA : Rdg (cAp 16 64 64 16 4).rd l 0 false (n, y6, y9, y12) p12 b12 := rg4.pair (rg6.pair (rg9.pair rg12))
  have hdec := rgA.whole
  have hE := rEnd_any hR13
  have hRt := rightA_any w13 _ _ hO.app
  have hA : dcA l = if (b12 = false ∧ p12 = l.length) ∧ rgtA (n, y6, y9, y12) then (n, y6, y9, y12) else (0, [], [], []) := by
    unfold dcA decA
    rw [hdec]
    split <;> rfl
  have hX : dcE l = if (b12 = false ∧ p12 = l.length) ∧ rgtA (n, y6, y9, y12) then 0 else 101 := by
    unfold dcE decA
    rw [hdec]
    split <;> rfl
  have HA := (show Hid (∀ er a e w', dcE l = er → dcA l = a → (∃ row, e = Ending.returned (.tuple #[.agg row.toArray, .int .i64 er]) ∧ OApp w.heap.size w' row a ∧ Below w.heap.size w w') → DcP w l e w') from fun er a e w' h1 h2 h3 => by unfold DcP; rw [h1, h2]; exact h3)
  clear hdec rgA rg4 rg6 rg9 rg12 hL7_10_13 hL10_13 hL13
  have cf := q13.cell (j := 3) rfl
  have hsw := HS.out
  by_cases hb : b12 = false ∧ p12 = l.length
  · rw [decide_eq_true hb] at hE
    by_cases hg : rgtA (n, y6, y9, y12)
    · rw [decide_eq_true hg] at hRt
      rw [if_pos ⟨hb, hg⟩] at hA hX
      have hone : ∀ x ∈ ([.int .i64 n, .slice x6 y6.length z6, .slice x9 y9.length z9, .slice x12 y12.length z12] : List Value), x.oneCell' = true := by
        intro x hx
        simp only [List.mem_cons, List.not_mem_nil, or_false] at hx
        rcases hx with rfl | rfl | rfl | rfl <;> rfl
      clear hb hg
      go_wp2_with (first
        | (go_at_call 66; refine hE.mono ?_; rintro e w13 ⟨rfl, rfl⟩)
        | (refine wl_load_w (by rfl) _ _ rfl ab rfl _ _ a13 _ Tryz.underlying27 rfl (by kernel_rfl) ?_)
        | (go_at_call 17; refine hRt.mono ?_; rintro e w20 ⟨rfl, hb20⟩; have a20 := a13.below hb20; have s20 := s13.below hb20)
        | (refine wl_load rfl _ _ rfl ab rfl _ _ a20 _ Tryz.underlying27 rfl (by kernel_rfl) ?_)
        | (refine wl_store rfl _ _ _ rfl sb [.int .i64 n, .slice x6 y6.length z6, .slice x9 y9.length z9, .slice x12 y12.length z12] rfl rfl _ _ s20 rfl (by kernel_rfl) hone ?_; intro w21 hr21 hg21))
      have hO20 := hO.below hb20
      have B20 := below_and B13 le hb20
      refine bodyPost_ret (results_ctU rfl _ _ sb _ _ (0, 0) _ (by rfl) hr21.out Tryz.underlying27 rfl (by kernel_rfl)) rfl ?_
      exact HA.out _ _ _ _ hX hA ⟨_, rfl, hO20.gr hg21 s20, B20.trans (grown_below hg21 B20.size (fun k hk => by cases hk; exact hsw))⟩
    · rw [decide_eq_false hg] at hRt
      rw [if_neg (fun hh => hg hh.2)] at hA hX
      clear hb hg
      go_wp2_with (first
        | (go_at_call 66; refine hE.mono ?_; rintro e w13 ⟨rfl, rfl⟩)
        | (refine wl_load_w (by rfl) _ _ rfl ab rfl _ _ a13 _ Tryz.underlying27 rfl (by kernel_rfl) ?_)
        | (go_at_call 17; refine hRt.mono ?_; rintro e w20 ⟨rfl, hb20⟩; have a20 := a13.below hb20; have s20 := s13.below hb20)
        | (refine wl_store rfl _ _ _ rfl sb [.int .i64 0, .slice none 0 0, .slice none 0 0, .slice none 0 0] rfl rfl _ _ s20 rfl (by kernel_rfl) (by decide) ?_; intro w21 hr21 hg21))
      have B20 := below_and B13 le hb20
      refine bodyPost_ret (results_ctU rfl _ _ sb _ _ (0, 0) _ (by rfl) hr21.out Tryz.underlying27 rfl (by kernel_rfl)) rfl ?_
      exact HA.out _ _ _ _ hX hA ⟨_, rfl, OApp.zero _ _, B20.trans (grown_below hg21 B20.size (fun k hk => by cases hk; exact hsw))⟩
  · rw [decide_eq_false hb] at hE
    rw [if_neg (fun hh => hb hh.1)] at hA hX
    clear hb
    go_wp2_with (first
      | (go_at_call 66; refine hE.mono ?_; rintro e w13 ⟨rfl, rfl⟩)
      | (refine wl_store rfl _ _ _ rfl sb [.int .i64 0, .slice none 0 0, .slice none 0 0, .slice none 0 0] rfl rfl _ _ s13 rfl (by kernel_rfl) (by decide) ?_; intro w21 hr21 hg21))
    refine bodyPost_ret (results_ctU rfl _ _ sb _ _ (0, 0) _ (by rfl) hr21.out Tryz.underlying27 rfl (by kernel_rfl)) rfl ?_
    exact HA.out _ _ _ _ hX hA ⟨_, rfl, OApp.zero _ _, B13.trans (grown_below hg21 B13.size (fun k hk => by cases hk; exact hsw))⟩
end Go.Proofs.YteafgdidjdfiiaaGreat
end

section
set_option linter.unusedVariables false
set_option linter.unusedSimpArgs false
namespace Go.Proofs.YteafgdidjdfiiaaGreat
open Go.RowKit Oct Kvl

theorem run_overN (w : World) (g vb i lb cb : Nat) (hne : vb ≠ g) (cur r : List Value) (hr : r.length = 4) (hg : Row w g 77 cur) (hc : cur ≠ []) (hv : Row w vb 77 r) :
    (callFunc 103 #[.slice (some ⟨vb, 0, none⟩) 1 1, .slice (some ⟨g, i, none⟩) lb cb]).run Tryz.prog w = .ok (.value (.bool false)) w := by
  have hz : ∀ w, (Go.sizeOf 77).run Tryz.prog w = .ok 4 w := fun w => by
    obtain ⟨i0, hi, hz0, hz1, hz2⟩ := info_parts Tryz.infN
    simp [sizeOf, typeInfo, hi, hz1]
  have s1 : w.shape? vb = some (77, 4) := by
    unfold Row at hv
    simp [World.shape?, hv, hr]
  have s2 : w.shape? g = some (77, cur.length) := by
    unfold Row at hg
    simp [World.shape?, hg]
  rw [run_callFunc_extern Tryz.func103 (by kernel_rfl) (by kernel_rfl) (by kernel_rfl) (e := Extern.SlicesOverlaps.overlaps #[25, 25] #[4]) (by kernel_rfl),
    Lib.run_overlaps_apart w 25 4 77 Tryz.underlying25 4 hz ⟨vb, 0, none⟩ ⟨g, i, none⟩ 1 1 lb cb hne 77 77 4 cur.length s1 s2 (fun e => hc (List.eq_nil_of_length_eq_zero e)) (hv.frozen 0) (hv.frozen 4)]
  rfl
set_option maxHeartbeats 1000000 in
set_option maxRecDepth 100000 in
/-- slices.Insert, ahead of the end, where there is room. -/
theorem insertN_room (w : World) (g cap n i vb : Nat) (cur L r : List Value) (hrow : Row w g 77 cur) (hcl : cur.length = cap * 4) (hL : L.length = n * 4) (ht : cur.take (n * 4) = L) (hi : i < n) (hroom : n + 1 ≤ cap) (hcap : cap ≤ maxLen) (hn : n ≤ 64) (h1 : ∀ u ∈ L, u.oneCell' = true)
    (hne : vb ≠ g) (hv : Row w vb 77 r) (hr : r.length = 4) (h1r : ∀ u ∈ r, u.oneCell' = true) :
    Calls Tryz.prog 84 #[.slice (some ⟨g, 0, none⟩) n cap, .int .i64 (i : Int), .slice (some ⟨vb, 0, none⟩) 1 1] w fun e w' =>
      e = .returned (.slice (some ⟨g, 0, none⟩) (n + 1) cap) ∧ w.grownBy w' (some g) ∧ ∃ cur', Row w' g 77 cur' ∧ cur'.length = cap * 4 ∧ cur'.take ((n + 1) * 4) = L.take (i * 4) ++ (r ++ L.drop (i * 4)) := by
  have hov := fun lb cb => run_overN w g vb ((i + 1) * 4) lb cb hne cur r hr hrow (fun e => by rw [e] at hcl; simp at hcl; omega) hv
  have hdl : (L.drop (i * 4)).length = (n - i) * 4 := by rw [List.length_drop, hL]; omega
  have hsrc : ∀ j v, (L.drop (i * 4))[j]? = some v → w.cell? ((⟨g, i * 4, none⟩ : Addr).add j) = some v := fun j v hj => by
    rw [Addr.add_mid]
    rw [List.getElem?_drop] at hj
    exact hrow.atL ht hj
  have hfit : (i + 1) * 4 + (L.drop (i * 4)).length ≤ cur.length := by omega
  have hfin : (splice (splice cur ((i + 1) * 4) (L.drop (i * 4))) (i * 4) r).take ((n + 1) * 4) = L.take (i * 4) ++ (r ++ L.drop (i * 4)) := by
    have := spl1 cur (L.drop (i * 4)) r (i * 4) (by omega)
    rw [hr, hdl, show i * 4 + 4 + (n - i) * 4 = (n + 1) * 4 by omega, show i * 4 + 4 = (i + 1) * 4 by omega] at this
    rw [this, ← ht, List.take_take, Nat.min_eq_left (by omega)]
  have HI := (show Hid _ from hfin)
  have HR := (show Hid (Row w g 77 cur) from hrow)
  have HV := (show Hid (Row w vb 77 r) from hv)
  have HS := (show Hid (∀ j v, (L.drop (i * 4))[j]? = some v → w.cell? ((⟨g, i * 4, none⟩ : Addr).add j) = some v) from hsrc)
  have HF := (show Hid ((i + 1) * 4 + (L.drop (i * 4)).length ≤ cur.length) from hfit)
  have HL := (show Hid ((L.drop (i * 4)).length = (n - i) * 4) from hdl)
  have HO := (show Hid (∀ u ∈ L.drop (i * 4), u.oneCell' = true) from fun u hu => h1 u (List.mem_of_mem_drop hu))
  have HC := (show Hid (cur.length = cap * 4) from hcl)
  have HRL := (show Hid (r.length = 4) from hr)
  clear hrow hv hsrc hfit hdl h1 hcl ht hfin hL hr
  generalize L.drop (i * 4) = D at *
  have hz2 : ((i : Int) == (n : Int)) = false := by simp; omega
  have hb2 : ¬ (cap = i + 1) := by omega
  have hb4 : ¬ (cap = i) := by omega
  have hb0 : ¬ (cap = 0) := by omega
  have hb1 : (0 : Int) ≤ (i : Int) + 1 := by omega
  have hb3 : (i : Int) ≤ (n : Int) + 1 := by omega
  have hb5 : (i : Int) ≤ (n : Int) := by omega
  have hb6 : (i : Int) + 1 ≤ (n : Int) + 1 := by omega
  have hw1 : IntKind.i64.wrap ((i : Int) + 1) = (i : Int) + 1 := by rw [IntKind.wrap_i64]; omega
  have hin : i ≤ n := by omega
  have htn : ((i : Int) + 1).toNat = i + 1 := by omega
  have hcm : (cap : Int) ≤ 9223372036854775807 := by unfold maxLen at hcap; omega
  go_enter Tryz.func84, Tryz.ntmps84
  go_wp2_with (simp only [hov])
  clear hov
  go_region_law ((refine step_copy_k (by rfl) _ _ _ _ (by rfl) 77 4 Tryz.underlying25 Tryz.sizN (some ⟨g, (i + 1) * 4, none⟩) (some ⟨g, i * 4, none⟩) (n - i) (cap - (i + 1)) (n + 1 - i) (cap - i) (by simp [Act.eval, Act.put]) (by simp [Act.eval, Act.put]) g ((i + 1) * 4) cur 77 HR.out D (by rw [HL.out]; congr 1; simp only [Nat.min_def]; split <;> omega) (fun _ => ⟨rfl, _, rfl, HS.out⟩) (by decide) HF.out HO.out (n - i) (by simp only [Nat.min_def]; split <;> omega) ?_; intro w2 hr2 hg2))
  have hv2 : Row w2 vb 77 r := HV.out.grown (grown_drew hg2) (fun e => hne (Option.some.inj e).symm)
  have HS2 := (show Hid (∀ j v, r[j]? = some v → w2.cell? ((⟨vb, 0, none⟩ : Addr).add j) = some v) from fun j v hj => by
    rw [Addr.add_mid, Nat.zero_add]
    exact hv2.cell hj)
  have HF2 := (show Hid (i * 4 + r.length ≤ (splice cur ((i + 1) * 4) D).length) from by
    show i * 4 + r.length ≤ (splice cur ((i + 1) * 4) D).length
    rw [length_splice _ _ _ HF.out, HC.out, HRL.out]; omega)
  have HG2 := (show Hid (w.grownBy w2 (some g)) from grown_drew hg2)
  clear hv2 hg2
  go_wp2_with (refine wl_copy_k (by rfl) _ _ _ _ (by rfl) 77 4 Tryz.underlying25 Tryz.sizN (some ⟨g, i * 4, none⟩) (some ⟨vb, 0, none⟩) (n + 1 - i) (cap - i) 1 1 (by simp [Act.eval]) (by simp [Act.eval]) g (i * 4) (splice cur ((i + 1) * 4) D) 77 hr2.out r (by rw [HRL.out]; simp only [Nat.min_def]; split <;> omega) (fun _ => ⟨rfl, _, rfl, HS2.out⟩) (by decide) HF2.out h1r 1 (by simp only [Nat.min_def]; split <;> omega) ?_; intro w3 hr3 hg3)
  go_ret
  refine ⟨rfl, grown_trans HG2.out hg3 (.inl rfl), _, hr3.out, ?_, HI.out⟩
  rw [length_splice _ _ _ HF2.out, length_splice _ _ _ HF.out, HC.out]

set_option maxHeartbeats 1000000 in
set_option maxRecDepth 100000 in
/-- slices.Insert, ahead of the end, where there is no room. -/
theorem insertN_grow (w : World) (g cap n i vb : Nat) (cur L r : List Value) (hrow : Row w g 77 cur) (hcl : cur.length = cap * 4) (hL : L.length = n * 4) (ht : cur.take (n * 4) = L) (hi : i < n) (hnc : n ≤ cap) (hroom : cap < n + 1) (hn : n ≤ 64) (h1 : ∀ u ∈ L, u.oneCell' = true)
    (hv : Row w vb 77 r) (hr : r.length = 4) (h1r : ∀ u ∈ r, u.oneCell' = true) :
    Calls Tryz.prog 84 #[.slice (some ⟨g, 0, none⟩) n cap, .int .i64 (i : Int), .slice (some ⟨vb, 0, none⟩) 1 1] w fun e w' =>
      ∃ NC, e = .returned (.slice (some ⟨w.heap.size, 0, none⟩) (n + 1) NC) ∧ n + 1 ≤ NC ∧ NC ≤ maxLen ∧ Below w.heap.size w w' ∧ ∃ cur', Row w' w.heap.size 77 cur' ∧ cur'.length = NC * 4 ∧ cur'.take ((n + 1) * 4) = L.take (i * 4) ++ (r ++ L.drop (i * 4)) := by
  obtain rfl : cap = n := by omega
  obtain ⟨i0, hi0, hz0, hzs, hzb⟩ := info_parts Tryz.infN
  have hdl : (L.drop (i * 4)).length = (cap - i) * 4 := by rw [List.length_drop, hL]; omega
  have HR := (show Hid (Row w g 77 cur) from hrow)
  have HV := (show Hid (Row w vb 77 r) from hv)
  have HL := (show Hid ((L.drop (i * 4)).length = (cap - i) * 4) from hdl)
  have HO := (show Hid (∀ u ∈ L.drop (i * 4), u.oneCell' = true) from fun u hu => h1 u (List.mem_of_mem_drop hu))
  have HT := (show Hid (cur.take (cap * 4) = L) from ht)
  have HRL := (show Hid (r.length = 4) from hr)
  have HFC := (show Hid (i * 4 ≤ cur.length) by show i * 4 ≤ _; omega)
  clear hrow hv hdl h1 hcl ht hL hr
  have hz2 : ((i : Int) == (cap : Int)) = false := by simp; omega
  have hb4 : ¬ (cap = i) := by omega
  have hb5 : (i : Int) ≤ (cap : Int) := by omega
  have hin : i ≤ cap := by omega
  have hgt : (cap : Int) < (cap : Int) + 1 := by omega
  go_enter Tryz.func84, Tryz.ntmps84
  have he : i + (cap + 1 - i) = cap + 1 := by omega
  have hxi : (Value.int .i64 ((cap : Int) + 1 - (i : Int))) = .int .i64 ((cap + 1 - i : Nat) : Int) := by congr 1; omega
  have HS0 := (show Hid (∀ u, Below w.heap.size w u → ∀ j v, (L.drop (i * 4))[j]? = some v → u.cell? ((⟨g, i * 4, none⟩ : Addr).add j) = some v) from fun u hu j v hj => by
    rw [Addr.add_mid]
    rw [List.getElem?_drop] at hj
    exact (HR.out.below hu).atL HT.out hj)
  have hvne : vb ≠ w.heap.size := fun e => by have := HV.out.lt; omega
  have hgne : g ≠ w.heap.size := fun e => by have := HR.out.lt; omega
  have HTT := (show Hid (cur.take (i * 4) = L.take (i * 4)) by show _ = _; rw [← HT.out, List.take_take, Nat.min_eq_left (by omega)])
  go_wp2_with (first
    | (at_builtin; refine wl_app_zeros rfl _ _ _ _ rfl 77 i0 _ 4 48 Tryz.underlying25 Tryz.underlying3 hi0 hz0 hzs hzb rfl (by decide) (by decide) g i cap rfl cur HR.out HFC.out (cap + 1 - i) (by omega) hxi (by omega) (by omega) ?_; intro NC row w2 hr2 hq2 hn2 hm2 hb2; have hn2' : cap + 1 ≤ NC := (by omega); have hnc1 : ¬ (NC = i) := (by omega); have hnc2 : ¬ (NC = i + 1) := (by omega); have HS2 := (show Hid (∀ j v, r[j]? = some v → w2.cell? ((⟨vb, 0, none⟩ : Addr).add j) = some v) from fun j v hj => (by rw [Addr.add_mid, Nat.zero_add]; exact (HV.out.below hb2).cell hj)); have HF2 := (show Hid (i * 4 + r.length ≤ row.length) by show _ ≤ _; rw [hq2.out.1, HRL.out]; omega))
    | (refine wl_copy_k (by rfl) _ _ _ _ (by rfl) 77 4 Tryz.underlying25 Tryz.sizN (some ⟨w.heap.size, i * 4, none⟩) (some ⟨vb, 0, none⟩) (cap + 1 - i) (NC - i) 1 1 (by simp [Act.eval]) (by simp [Act.eval]) w.heap.size (i * 4) row 77 hr2.out r (by rw [HRL.out]; simp only [Nat.min_def]; split <;> omega) (fun _ => ⟨rfl, _, rfl, HS2.out⟩) (by decide) HF2.out h1r 1 (by simp only [Nat.min_def]; split <;> omega) ?_; intro w3 hr3 hg3))
  have hb3 : Below w.heap.size w w3 := hb2.trans (grown_below hg3 hb2.size (fun k hk => by cases hk; exact Nat.le_refl _))
  have HB3 := (show Hid (Below w.heap.size w w3) from hb3)
  have HS3 := (show Hid (∀ j v, (L.drop (i * 4))[j]? = some v → w3.cell? ((⟨g, i * 4, none⟩ : Addr).add j) = some v) from HS0.out w3 hb3)
  have HF3 := (show Hid ((i + 1) * 4 + (L.drop (i * 4)).length ≤ (splice row (i * 4) r).length) by
    show _ ≤ _
    rw [length_splice _ _ _ HF2.out, hq2.out.1, HL.out]; omega)
  have HI := (show Hid ((splice (splice row (i * 4) r) ((i + 1) * 4) (L.drop (i * 4))).take ((cap + 1) * 4) = L.take (i * 4) ++ (r ++ L.drop (i * 4))) by
    show _ = _
    have := spl2 row (L.drop (i * 4)) r (i * 4) (by rw [HRL.out, HL.out, hq2.out.1]; omega)
    rw [HRL.out, HL.out, show i * 4 + 4 + (cap - i) * 4 = (cap + 1) * 4 by omega, show i * 4 + 4 = (i + 1) * 4 by omega] at this
    rw [this, hq2.out.2, HTT.out])
  have hb1 : (0 : Int) ≤ (i : Int) + 1 := by omega
  have hb6 : (i : Int) + 1 ≤ (cap : Int) + 1 := by omega
  have hw1 : IntKind.i64.wrap ((i : Int) + 1) = (i : Int) + 1 := by rw [IntKind.wrap_i64]; omega
  have htn : ((i : Int) + 1).toNat = i + 1 := by omega
  have hcm : (NC : Int) ≤ 9223372036854775807 := by unfold maxLen at hm2; omega
  clear hb3 hg3 hb2 HS2 HS0
  generalize hDD : L.drop (i * 4) = D at *
  have HDD := (show Hid (L.drop (i * 4) = D) from hDD)
  clear hDD
  go_region_law ((refine step_copy_k (by rfl) _ _ _ _ (by rfl) 77 4 Tryz.underlying25 Tryz.sizN (some ⟨w.heap.size, (i + 1) * 4, none⟩) (some ⟨g, i * 4, none⟩) (cap - i) (NC - (i + 1)) (cap - i) (cap - i) (by simp [Act.eval, Act.put]) (by simp [Act.eval, Act.put]) w.heap.size ((i + 1) * 4) (splice row (i * 4) r) 77 hr3.out D (by rw [HL.out]; congr 1; simp only [Nat.min_def]; split <;> omega) (fun _ => ⟨rfl, _, rfl, HS3.out⟩) (by decide) HF3.out HO.out (cap - i) (by simp only [Nat.min_def]; split <;> omega) ?_; intro w4 hr4 hg4))
  have hg4 := grown_drew hg4
  have hB4 := HB3.out.trans (grown_below hg4 HB3.out.size (fun k hk => by cases hk; exact Nat.le_refl _))
  go_wp2_with fail
  go_ret
  refine ⟨NC, rfl, hn2', hm2, hB4, _, hr4.out, ?_, by rw [HDD.out]; exact HI.out⟩
  rw [length_splice _ _ _ HF3.out, length_splice _ _ _ HF2.out, hq2.out.1]

set_option maxHeartbeats 1000000 in
set_option maxRecDepth 100000 in
/-- slices.Insert, at the end. -/
theorem insertN_end (w : World) (v : Value) (B : Nat) (ys : List PEnt) (h : LB OSes 77 4 B w v ys) (hB : B ≤ w.heap.size) (hn : ys.length ≤ 64) (vb : Nat) (r : List Value) (hv : Row w vb 77 r) (y : PEnt) (hr : OSes (fun b => B ≤ b ∧ v.ownBlock ≠ some b) w r y) :
    Calls Tryz.prog 84 #[v, .int .i64 (ys.length : Int), .slice (some ⟨vb, 0, none⟩) 1 1] w fun e w' => ∃ v', e = .returned v' ∧ LB OSes 77 4 B w' v' (ys ++ [y]) ∧ w.grownBy w' v.ownBlock := by
  obtain ⟨i0, hi0, hz0, hzs, hzb⟩ := info_parts Tryz.infN
  obtain ⟨rows, h0, hown, hfr, hall⟩ := h
  have hlen := hall.len
  have hrl : r.length = 4 := by obtain ⟨c, d, k, a, l, rfl, _⟩ := hr; rfl
  have h1r := one_RN hr.ses
  rw [hlen] at hown
  have HO := (show Hid (w.ownsRow 0 77 4 v ys.length rows.flatten) from hown)
  have HS := (show Hid (∀ j u, r[j]? = some u → w.cell? ((⟨vb, 0, none⟩ : Addr).add j) = some u) from fun j u hj => by
    rw [Addr.add_mid, Nat.zero_add]
    exact hv.cell hj)
  have HL := (show Hid (rows.length = ys.length) from hlen)
  have HRL := (show Hid (r.length = 1 * 4) from hrl)
  have HA := (show Hid (All2 (OSes (fun b => B ≤ b ∧ v.ownBlock ≠ some b) w) rows ys) from hall)
  have hform : ∃ ao cap, v = .slice ao ys.length cap ∧ ys.length ≤ cap ∧ (cap : Int) ≤ 9223372036854775807 := by
    rcases hown.2 with ⟨rfl, h⟩ | ⟨g, cap, cur, rfl, _, _, h1, h2, _⟩
    · exact ⟨none, 0, by rw [h], by omega, by decide⟩
    · exact ⟨_, cap, rfl, h1, by unfold maxLen at h2; omega⟩
  clear hown hall hlen hrl
  obtain ⟨n, hnn⟩ : ∃ n, n = ys.length := ⟨_, rfl⟩
  rw [← hnn] at HO HL hn hform ⊢
  have HN := (show Hid (ys.length = n) from hnn.symm)
  clear hnn
  have hz2 : ((n : Int) == (n : Int)) = true := by simp
  have hbk : ∀ g, v.ownBlock = some g → B ≤ g := hfr
  have HFR := (show Hid (∀ g, v.ownBlock = some g → B ≤ g) from hbk)
  have HLT := (show Hid (∀ g, v.ownBlock = some g → g < w.heap.size) from fun g hg => (World.ownsRow.lt HO.out g hg).2)
  have fin : ∀ (g cap : Nat) (w' : World), w'.ownsRow 0 77 4 (.slice (some ⟨g, 0, none⟩) (n + 1) cap) (n + 1) (rows.flatten ++ r) → w.grownBy w' v.ownBlock → (v.ownBlock = some g ∨ w.heap.size ≤ g) → LB OSes 77 4 B w' (.slice (some ⟨g, 0, none⟩) (n + 1) cap) (ys ++ [y]) ∧ w.grownBy w' v.ownBlock := by
    intro g cap w' hown' hgr hat
    have hgB : B ≤ g := by
      rcases hat with hat | hat
      · exact HFR.out g hat
      · omega
    have hflat : rows.flatten ++ r = (rows ++ [r]).flatten := by simp
    have hrl : r.length = 4 := HRL.out
    refine ⟨⟨rows ++ [r], ?_, ?_, fr_at _ _ _ _ hgB, ?_⟩, hgr⟩
    · intro q hq
      rcases List.mem_append.1 hq with hq | hq
      · exact h0 q hq
      · simp at hq; subst hq; exact hrl
    · rw [List.length_append, ← hflat, HL.out]
      exact hown'
    · have mv : Mv (fun b => B ≤ b ∧ v.ownBlock ≠ some b) (fun b => B ≤ b ∧ (Value.slice (some ⟨g, 0, none⟩) (n + 1) cap).ownBlock ≠ some b) w w' := fun j hj hjl => by
        refine ⟨hgr.block j hjl (fun e => hj.2 e.symm), hj.1, fun e => ?_⟩
        simp [Value.ownBlock] at e
        rcases hat with hat | hat
        · exact hj.2 (by rw [hat, e])
        · omega
      exact All2.app (HA.out.mono fun q b hq => mov_oses _ _ _ _ _ _ hq hgr.size mv) ⟨mov_oses _ _ _ _ _ _ hr hgr.size mv, trivial⟩
  have HFI := (show Hid (∀ (g cap : Nat) (w' : World), w'.ownsRow 0 77 4 (.slice (some ⟨g, 0, none⟩) (n + 1) cap) (n + 1) (rows.flatten ++ r) → w.grownBy w' v.ownBlock → (v.ownBlock = some g ∨ w.heap.size ≤ g) → LB OSes 77 4 B w' (.slice (some ⟨g, 0, none⟩) (n + 1) cap) (ys ++ [y]) ∧ w.grownBy w' v.ownBlock) from fin)
  clear fin hbk hr hv
  obtain ⟨ao, cap, rfl, hc1, hc2⟩ := hform
  have hb0 : (0 : Int) ≤ (n : Int) := by omega
  by_cases hcn : cap = n
  · subst hcn
    cases ao with
    | none =>
      go_enter Tryz.func84, Tryz.ntmps84
      go_wp2_with (at_builtin; refine wpList_append_lies w rfl _ _ 25 rfl 0 77 i0 _ 4 48 Tryz.underlying25 hi0 hz0 hzs hzb rfl (by decide) _ cap rows.flatten rfl HO.out ⟨vb, 0, none⟩ 1 1 r rfl HRL.out HS.out h1r (by decide) (by unfold maxLen; omega) (by omega) (Nat.zero_le _) w.heap.size rfl ?_; intro g cap' w' hown' hgr hat hlt)
      go_ret
      obtain ⟨f1, f2⟩ := HFI.out g cap' w' hown' hgr (hat.imp_right fun e => Nat.le_of_eq e.symm)
      exact ⟨_, rfl, f1, f2⟩
    | some a =>
      go_enter Tryz.func84, Tryz.ntmps84
      go_wp2_with (at_builtin; refine wpList_append_lies w rfl _ _ 25 rfl 0 77 i0 _ 4 48 Tryz.underlying25 hi0 hz0 hzs hzb rfl (by decide) _ cap rows.flatten rfl HO.out ⟨vb, 0, none⟩ 1 1 r rfl HRL.out HS.out h1r (by decide) (by unfold maxLen; omega) (by omega) (Nat.zero_le _) w.heap.size rfl ?_; intro g cap' w' hown' hgr hat hlt)
      go_ret
      obtain ⟨f1, f2⟩ := HFI.out g cap' w' hown' hgr (hat.imp_right fun e => Nat.le_of_eq e.symm)
      exact ⟨_, rfl, f1, f2⟩
  · cases ao with
    | none =>
      exfalso
      rcases HO.out.2 with ⟨h, _⟩ | ⟨g, cap', cur, h, _⟩
      · injection h with _ h1 h2; omega
      · injection h with h; cases h
    | some a =>
      go_enter Tryz.func84, Tryz.ntmps84
      go_wp2_with (at_builtin; refine wpList_append_lies w rfl _ _ 25 rfl 0 77 i0 _ 4 48 Tryz.underlying25 hi0 hz0 hzs hzb rfl (by decide) _ n rows.flatten rfl HO.out ⟨vb, 0, none⟩ 1 1 r rfl HRL.out HS.out h1r (by decide) (by unfold maxLen; omega) (by omega) (Nat.zero_le _) w.heap.size rfl ?_; intro g cap' w' hown' hgr hat hlt)
      go_ret
      obtain ⟨f1, f2⟩ := HFI.out g cap' w' hown' hgr (hat.imp_right fun e => Nat.le_of_eq e.symm)
      exact ⟨_, rfl, f1, f2⟩

/-- slices.Insert. -/
theorem insertN_any (w : World) (v : Value) (B : Nat) (ys : List PEnt) (h : LB OSes 77 4 B w v ys) (hB : B ≤ w.heap.size) (hn : ys.length ≤ 64) (i : Nat) (hi : i ≤ ys.length) (vb : Nat) (r : List Value) (hv : Row w vb 77 r) (hvb : v.ownBlock ≠ some vb) (y : PEnt) (hr : OSes (fun b => B ≤ b ∧ v.ownBlock ≠ some b) w r y) :
    Calls Tryz.prog 84 #[v, .int .i64 (i : Int), .slice (some ⟨vb, 0, none⟩) 1 1] w fun e w' => ∃ v', e = .returned v' ∧ LB OSes 77 4 B w' v' (insL i y ys) ∧ w.grownBy w' v.ownBlock := by
  rcases Nat.lt_or_ge i ys.length with hil | hil
  rotate_left
  · obtain rfl : i = ys.length := by omega
    rw [insL, List.take_length, List.drop_length]
    exact insertN_end w v B ys h hB hn vb r hv y hr
  obtain ⟨rows, h0, hown, hfr, hall⟩ := h
  have hlen := hall.len
  have hrl : r.length = 4 := by obtain ⟨c, d, k, a, l, rfl, _⟩ := hr; rfl
  have h1r := one_RN hr.ses
  have h1 : ∀ u ∈ rows.flatten, u.oneCell' = true := by
    intro u hu
    obtain ⟨q, hq, huq⟩ := List.mem_flatten.1 hu
    obtain ⟨k, hk, rfl⟩ := List.getElem_of_mem hq
    exact one_RN (hall.get (List.getElem?_eq_getElem hk) (List.getElem?_eq_getElem (by omega))).ses u huq
  have hfl := flat_len h0
  have hfin : rows.flatten.take (i * 4) ++ (r ++ rows.flatten.drop (i * 4)) = (insL i r rows).flatten := by
    rw [flat_take h0 i (by omega), flat_drop h0 i (by omega), insL, List.flatten_append, List.flatten_cons]
  have hil2 : ∀ q ∈ insL i r rows, q.length = 4 := fun q hq => by
    rcases List.mem_append.1 hq with hq | hq
    · exact h0 q (List.mem_of_mem_take hq)
    · rcases List.mem_cons.1 hq with rfl | hq
      · exact hrl
      · exact h0 q (List.mem_of_mem_drop hq)
  have hlenI : (insL i r rows).length = ys.length + 1 := by rw [insL, List.length_append, List.length_cons, List.length_take, List.length_drop]; omega
  have hallI : ∀ (G' : Nat → Prop) (w' : World), w.heap.size ≤ w'.heap.size → Mv (fun b => B ≤ b ∧ v.ownBlock ≠ some b) G' w w' → All2 (OSes G' w') (insL i r rows) (insL i y ys) := fun G' w' hs hm =>
    All2.app ((hall.take i).mono fun q b hq => mov_oses _ _ _ _ _ _ hq hs hm) ⟨mov_oses _ _ _ _ _ _ hr hs hm, (hall.drop i).mono fun q b hq => mov_oses _ _ _ _ _ _ hq hs hm⟩
  rw [hlen] at hown hfl
  rcases hown.2 with ⟨_, h4⟩ | ⟨g, cap, cur, rfl, _, hg, hc1, hc2, hc3, hc4⟩
  · omega
  have hrow : Row w g 77 cur.toList := by unfold Row; simpa using hg
  have hvg : vb ≠ g := fun e => hvb (by simp [Value.ownBlock, e])
  have hgB : B ≤ g := hfr g rfl
  rcases Nat.lt_or_ge cap (ys.length + 1) with hroom | hroom
  · refine (insertN_grow w g cap ys.length i vb cur.toList rows.flatten r hrow (by simpa using hc3) hfl hc4 hil hc1 hroom hn h1 hv hrl h1r).mono ?_
    rintro e w' ⟨NC, rfl, n1, n2, hb, cur', k1, k2, k3⟩
    refine ⟨_, rfl, ⟨insL i r rows, hil2, ⟨flat_len hil2, .inr ⟨w.heap.size, NC, cur'.toArray, by rw [hlenI], Nat.zero_le _, k1, by omega, n2, by simpa using k2, by rw [hlenI, ← hfin]; simpa using k3⟩⟩, fr_at _ _ _ _ hB, hallI _ _ hb.size fun j hj hjl => ⟨hb.block j hjl, hj.1, fun e => ?_⟩⟩, grown_of_below hb _⟩
    simp [Value.ownBlock] at e
    omega
  · refine (insertN_room w g cap ys.length i vb cur.toList rows.flatten r hrow (by simpa using hc3) hfl hc4 hil hroom hc2 hn h1 hvg hv hrl h1r).mono ?_
    rintro e w' ⟨rfl, hb, cur', k1, k2, k3⟩
    refine ⟨_, rfl, ⟨insL i r rows, hil2, ⟨flat_len hil2, .inr ⟨g, cap, cur'.toArray, by rw [hlenI], Nat.zero_le _, k1, by omega, hc2, by simpa using k2, by rw [hlenI, ← hfin]; simpa using k3⟩⟩, fr_at _ _ _ _ hgB, hallI _ _ hb.size fun j hj hjl => ⟨hb.block j hjl (fun e => hj.2 e.symm), hj.1, hj.2⟩⟩, hb⟩
end Go.Proofs.YteafgdidjdfiiaaGreat
end
