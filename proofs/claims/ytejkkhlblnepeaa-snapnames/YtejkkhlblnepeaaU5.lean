/- The records of snap.Decode, its lists, itself. (Made by mk10r.py.) -/
import Derived.Test.YtejkkhlblnepeaaU4
set_option linter.unusedVariables false
set_option linter.unusedSimpArgs false
namespace Go.Proofs.Ytejkkhlblnepeaa
open Go.RowKit Oct Kvl

/-- All of a reader lies below B. -/
def Rdb (B k1 k3 k4 k5 k6 : Nat) (bv : Value) (l : List Int) : Prop := k1 < B ∧ k3 < B ∧ k4 < B ∧ k5 < B ∧ k6 < B ∧ (l ≠ [] → ∀ k, bv.ownBlock = some k → k < B)
theorem Rdr.low {k1 k3 k4 k5 k6 : Nat} {w : World} {bv : Value} {l : List Int} {p : Nat} {bad : Bool} (h : Rdr k1 k3 k4 k5 k6 w bv l p bad) : Rdb w.heap.size k1 k3 k4 k5 k6 bv l := ⟨h.r1.lt, h.r3.lt, h.r4.lt, h.r5.lt, h.r6.lt, fun hx k hk => h.rd.1.lt hx k hk⟩
theorem Rdr.above {k1 k3 k4 k5 k6 B : Nat} {w w' : World} {bv : Value} {l : List Int} {p : Nat} {bad : Bool} (h : Rdr k1 k3 k4 k5 k6 w bv l p bad) (hb : Rdb B k1 k3 k4 k5 k6 bv l) {r : Option Nat} (hg : w.grownBy w' r) (hr : ∀ g, r = some g → B ≤ g) : Rdr k1 k3 k4 k5 k6 w' bv l p bad := by
  obtain ⟨b1, b3, b4, b5, b6, bb⟩ := hb
  have ne : ∀ j, j < B → r ≠ some j := fun j hj e => by have := hr j e; omega
  exact ⟨h.r1.grown hg (ne _ b1), h.r3.grown hg (ne _ b3), h.r4.grown hg (ne _ b4), h.r5.grown hg (ne _ b5), h.r6.grown hg (ne _ b6), ⟨h.rd.1.grown hg (fun hx k hk e => by have := hr k hk; have := bb hx k e; omega), h.rd.2⟩, h.hp, h.hl⟩
theorem Chg.grown {k3 k4 : Nat} {w w1 w2 : World} (h : Chg k3 k4 w w1) {r : Option Nat} (hg : w1.grownBy w2 r) (hr : ∀ g, r = some g → w.heap.size ≤ g) : Chg k3 k4 w w2 :=
  ⟨hg.os.trans h.os, hg.tape.trans h.tape, hg.output.trans h.output, Nat.le_trans h.size hg.size, fun k hk h3 h4 => (hg.block k (Nat.lt_of_lt_of_le hk h.size) (fun e => by have := hr k e.symm; omega)).trans (h.block k hk h3 h4)⟩
theorem OT.gr {G : Nat → Prop} {w w' : World} {v : Value} {t : List Int} (h : OT G w v t) {b : Nat} {e : TypeId} {xs : List Value} (hr : Row w b e xs) (he : e ≠ 5) (hg : w.grownBy w' (some b)) : OT G w' v t :=
  ⟨h.1.grown hg (fun k hk => by cases hk; exact own_row_nU hr h.1 he), h.2.1, h.2.2⟩
/-- The end of a call that reads a record. -/
def RRp (k1 k3 k4 k5 k6 : Nat) (w : World) (bv : Value) (l : List Int) (p : Nat) (bad : Bool) (R : (Nat → Prop) → World → List Value → PEnt → Prop) (rd : List Int → Option (PEnt × List Int)) (e : Ending) (w' : World) : Prop :=
  ∃ row x p' bad', e = .returned (.agg row.toArray) ∧ R (From w.heap.size) w' row x ∧ Rdg rd l p bad x p' bad' ∧ Rdr k1 k3 k4 k5 k6 w' bv l p' bad' ∧ Chg k3 k4 w w'
/-- The end of a call that reads a list. -/
def RLp (k1 k3 k4 k5 k6 : Nat) (w : World) (bv : Value) (l : List Int) (p : Nat) (bad : Bool) (R : (Nat → Prop) → World → List Value → PEnt → Prop) (T : TypeId) (k : Nat) (m : Int) (rd : List Int → Option (List PEnt × List Int)) (e : Ending) (w' : World) : Prop :=
  ∃ v ys p' bad', e = .returned v ∧ LB R T k w.heap.size w' v ys ∧ (ys.length : Int) ≤ m ∧ Rdg rd l p bad ys p' bad' ∧ Rdr k1 k3 k4 k5 k6 w' bv l p' bad' ∧ Chg k3 k4 w w'

set_option maxRecDepth 10000 in
set_option maxHeartbeats 2000000 in
theorem dEnt_any {k1 k3 k4 k5 k6 : Nat} {w : World} {bv : Value} {l : List Int} {p : Nat} {bad : Bool} (h : Rdr k1 k3 k4 k5 k6 w bv l p bad) (rb : Nat) (hrb : Row w rb 67 [.func (.func 47) #[] #[.pointer (some ⟨k1, 0, none⟩), .pointer (some ⟨k3, 0, none⟩), .pointer (some ⟨k5, 0, none⟩)], .func (.func 49) #[] #[.pointer (some ⟨k6, 0, none⟩), .pointer (some ⟨k4, 0, none⟩)], .func (.func 50) #[] #[.pointer (some ⟨k1, 0, none⟩), .pointer (some ⟨k3, 0, none⟩), .pointer (some ⟨k5, 0, none⟩)], .func (.func 52) #[] #[.pointer (some ⟨k4, 0, none⟩), .pointer (some ⟨k3, 0, none⟩), .pointer (some ⟨k1, 0, none⟩)]]) :
    Calls Try.prog 29 #[.pointer (some ⟨rb, 0, none⟩)] w (RRp k1 k3 k4 k5 k6 w bv l p bad OEnt (cEn 16 64).rd) := by
  have hlow := h.low
  have hb3 := h.r3.lt
  have hb4 := h.r4.lt
  have n3 := hrb.apart h.r3 (by decide)
  have n4 := hrb.apart h.r4 (by decide)
  have hrl := hrb.lt
  obtain ⟨w0, hw0⟩ : ∃ w0, w0 = (w.alloc (.cells #[.slice none 0 0, .slice none 0 0] 54)).alloc (.cells #[.slice none 0 0, .slice none 0 0] 54) := ⟨_, rfl⟩
  have B0 : Below w.heap.size w w0 := by rw [hw0]; exact below_and (below_alloc _ _) (Nat.le_refl _) (below_alloc _ _)
  have hs : Row w0 w.heap.size 54 [.slice none 0 0, .slice none 0 0] := by rw [hw0]; exact rowA (Row.new w 54 _) _
  have hv : Row w0 (w.heap.size + 1) 54 [.slice none 0 0, .slice none 0 0] := by
    rw [hw0]
    have := Row.new (w.alloc (.cells #[.slice none 0 0, .slice none 0 0] 54)) 54 [.slice none 0 0, .slice none 0 0]
    simpa using this
  have hR := h.below B0
  have hrb0 := hrb.below B0
  go_enter Try.func29, Try.ntmps29
  go_upto_region 2 with fail
  rw [← hw0]
  clear hw0
  obtain ⟨vb, hvb⟩ : ∃ vb, vb = w.heap.size + 1 := ⟨_, rfl⟩
  obtain ⟨sb, hsb⟩ : ∃ sb, sb = w.heap.size := ⟨_, rfl⟩
  rw [← hvb] at hv ⊢
  have hs : Row w0 sb 54 [.slice none 0 0, .slice none 0 0] := by rw [hsb]; exact hs
  rw [← hsb]
  have hcI : Chg k3 k4 w w0 := Chg.below B0
  have hvs : vb ≠ sb := by omega
  have hv3 : vb ≠ k3 := by omega
  have hv4 : vb ≠ k4 := by omega
  have hs3 : sb ≠ k3 := by omega
  have hs4 : sb ≠ k4 := by omega
  have hvr : rb ≠ vb := by omega
  have hvw : w.heap.size ≤ vb := by omega
  have HSB := (show Hid (w.heap.size ≤ sb) by show _ ≤ _; omega)
  have HSB := (show Hid (w.heap.size ≤ sb) by show _ ≤ _; omega)
  have HSB := (show Hid (w.heap.size ≤ sb) by show _ ≤ _; omega)
  clear hvb hsb h hrb B0
  have cf := hrb0.cell (j := 2) rfl
  have hC := rText_any hR 16
  go_upto_region 3 with (first
    | (go_at_call 50; refine hC.mono ?_; rintro e w1 ⟨v0, t0, p0, b0, rfl, ot0, rg0, hR0, hc0⟩; obtain ⟨aa0, cc0, hvv0, _⟩ := ot0.rt.form; subst hvv0; have hvx := hc0.row hv hv3 hv4)
    | (refine wl_set rfl _ _ _ rfl vb 0 _ rfl rfl _ _ hvx (show 0 < 2 by decide) (by kernel_rfl) rfl ?_; intro w2 hr0 hg0))
  have hs0 := (hc0.row hs hs3 hs4).grown hg0 (fun e => hvs (by injection e))
  have hrb1 := (hc0.row hrb0 n3 n4).grown hg0 (fun e => hvr (by injection e with e; exact e.symm))
  have hR0' := hR0.above hlow hg0 (fun g hg => by cases hg; exact hvw)
  have hcc0 : Chg k3 k4 w w2 := (hcI.trans hc0).grown hg0 (fun g hg => by cases hg; exact hvw)
  have hv0' : Row w2 vb 54 [.slice aa0 t0.length cc0, .slice none 0 0] := hr0.out
  have hsz0 : w.heap.size ≤ w0.heap.size := hcI.size
  have ot0' := (ot0.gr hvx (by decide) hg0).mv (Mv.weak hsz0)
  clear cf hC hR hv hs hrb0 hvx hR0 hr0
  have cf := hrb1.cell (j := 2) rfl
  have hC := rText_any hR0' 64
  go_upto_region 4 with (first
    | (go_at_call 50; refine hC.mono ?_; rintro e w3 ⟨v1, t1, p1, b1, rfl, ot1, rg1, hR1, hc1⟩; obtain ⟨aa1, cc1, hvv1, _⟩ := ot1.rt.form; subst hvv1; have hvx := hc1.row hv0' hv3 hv4)
    | (refine wl_set rfl _ _ _ rfl vb 1 _ rfl rfl _ _ hvx (show 1 < 2 by decide) (by kernel_rfl) rfl ?_; intro w4 hr1 hg1))
  have hs1 := (hc1.row hs0 hs3 hs4).grown hg1 (fun e => hvs (by injection e))
  have hrb2 := (hc1.row hrb1 n3 n4).grown hg1 (fun e => hvr (by injection e with e; exact e.symm))
  have hR1' := hR1.above hlow hg1 (fun g hg => by cases hg; exact hvw)
  have hcc1 : Chg k3 k4 w w4 := (hcc0.trans hc1).grown hg1 (fun g hg => by cases hg; exact hvw)
  have hv1' : Row w4 vb 54 [.slice aa0 t0.length cc0, .slice aa1 t1.length cc1] := hr1.out
  have ot0_1 := (ot0'.mv (hc1.mv hb3 hb4)).gr hvx (by decide) hg1
  have hsz1 : w.heap.size ≤ w2.heap.size := hcc0.size
  have ot1' := (ot1.gr hvx (by decide) hg1).mv (Mv.weak hsz1)
  clear cf hC hR0' hv0' hs0 hrb1 hvx hR1 hr1
  have hone : ∀ x ∈ ([.slice aa0 t0.length cc0, .slice aa1 t1.length cc1] : List Value), x.oneCell' = true := by
    intro x hx
    simp only [List.mem_cons, List.not_mem_nil, or_false] at hx
    rcases hx with rfl | rfl <;> rfl
  go_wp2_with (first
    | (refine wl_load rfl _ _ rfl vb rfl _ _ hv1' _ Try.underlying54 rfl (by kernel_rfl) ?_)
    | (refine wl_store rfl _ _ _ rfl sb [.slice aa0 t0.length cc0, .slice aa1 t1.length cc1] rfl rfl _ _ hs1 rfl (by kernel_rfl) hone ?_; intro wz hrz hgz))
  have hswz : w.heap.size ≤ sb := HSB.out
  refine bodyPost_ret (v := .agg ([.slice aa0 t0.length cc0, .slice aa1 t1.length cc1] : List Value).toArray) (results_cell_row rfl _ _ sb _ _ (0, 0) _ (by rfl) hrz.out Try.underlying54 rfl (by kernel_rfl)) rfl ?_
  exact ⟨_, (t0, t1), _, _, rfl, ⟨_, _, rfl, ot0_1.gr hs1 (by decide) hgz, ot1'.gr hs1 (by decide) hgz⟩, rg0.pair rg1, hR1'.above hlow hgz (fun g hg => by cases hg; exact hswz), hcc1.grown hgz (fun g hg => by cases hg; exact hswz)⟩

theorem Try.inf10OEnt : (Try.prog.info? 54).map (fun i => (i.zero, i.size, i.bytes)) = some (some (.agg #[.slice none 0 0, .slice none 0 0]), 2, 48) := by kernel_rfl
theorem len10OEnt {G : Nat → Prop} {w : World} {r : List Value} {x : PEnt} (h : OEnt G w r x) : r.length = 2 ∧ ∀ u ∈ r, u.oneCell' = true := by
  obtain ⟨a, b, rfl, o1, o2⟩ := h
  refine ⟨rfl, fun x hx => ?_⟩
  simp only [List.mem_cons, List.not_mem_nil, or_false] at hx
  rcases hx with rfl | rfl
  · exact o1.rt.one
  · exact o2.rt.one
set_option maxRecDepth 10000 in
set_option maxHeartbeats 2000000 in
theorem lEnt_any {k1 k3 k4 k5 k6 : Nat} {w : World} {bv : Value} {l : List Int} {p : Nat} {bad : Bool} (h : Rdr k1 k3 k4 k5 k6 w bv l p bad) (rb : Nat) (hrb : Row w rb 67 [.func (.func 47) #[] #[.pointer (some ⟨k1, 0, none⟩), .pointer (some ⟨k3, 0, none⟩), .pointer (some ⟨k5, 0, none⟩)], .func (.func 49) #[] #[.pointer (some ⟨k6, 0, none⟩), .pointer (some ⟨k4, 0, none⟩)], .func (.func 50) #[] #[.pointer (some ⟨k1, 0, none⟩), .pointer (some ⟨k3, 0, none⟩), .pointer (some ⟨k5, 0, none⟩)], .func (.func 52) #[] #[.pointer (some ⟨k4, 0, none⟩), .pointer (some ⟨k3, 0, none⟩), .pointer (some ⟨k1, 0, none⟩)]]) (m : Int) (hm : 0 ≤ m ∧ m ≤ 100) :
    Calls Try.prog 28 #[.agg #[.func (.func 47) #[] #[.pointer (some ⟨k1, 0, none⟩), .pointer (some ⟨k3, 0, none⟩), .pointer (some ⟨k5, 0, none⟩)], .func (.func 49) #[] #[.pointer (some ⟨k6, 0, none⟩), .pointer (some ⟨k4, 0, none⟩)], .func (.func 50) #[] #[.pointer (some ⟨k1, 0, none⟩), .pointer (some ⟨k3, 0, none⟩), .pointer (some ⟨k5, 0, none⟩)], .func (.func 52) #[] #[.pointer (some ⟨k4, 0, none⟩), .pointer (some ⟨k3, 0, none⟩), .pointer (some ⟨k1, 0, none⟩)]], .int .i64 m, .func (.func 29) #[] #[.pointer (some ⟨rb, 0, none⟩)]] w (RLp k1 k3 k4 k5 k6 w bv l p bad OEnt 54 2 m (cLm m (cEn 16 64)).rd) := by
  have hlow := h.low
  have hb3 := h.r3.lt
  have hb4 := h.r4.lt
  have n3 := hrb.apart h.r3 (by decide)
  have n4 := hrb.apart h.r4 (by decide)
  obtain ⟨w0, hw0⟩ : ∃ w0, w0 = w.alloc (.cells #[.func (.func 47) #[] #[.pointer (some ⟨k1, 0, none⟩), .pointer (some ⟨k3, 0, none⟩), .pointer (some ⟨k5, 0, none⟩)], .func (.func 49) #[] #[.pointer (some ⟨k6, 0, none⟩), .pointer (some ⟨k4, 0, none⟩)], .func (.func 50) #[] #[.pointer (some ⟨k1, 0, none⟩), .pointer (some ⟨k3, 0, none⟩), .pointer (some ⟨k5, 0, none⟩)], .func (.func 52) #[] #[.pointer (some ⟨k4, 0, none⟩), .pointer (some ⟨k3, 0, none⟩), .pointer (some ⟨k1, 0, none⟩)]] 67) := ⟨_, rfl⟩
  have B0 : Below w.heap.size w w0 := by rw [hw0]; exact below_alloc _ _
  have hx : Row w0 w.heap.size 67 [.func (.func 47) #[] #[.pointer (some ⟨k1, 0, none⟩), .pointer (some ⟨k3, 0, none⟩), .pointer (some ⟨k5, 0, none⟩)], .func (.func 49) #[] #[.pointer (some ⟨k6, 0, none⟩), .pointer (some ⟨k4, 0, none⟩)], .func (.func 50) #[] #[.pointer (some ⟨k1, 0, none⟩), .pointer (some ⟨k3, 0, none⟩), .pointer (some ⟨k5, 0, none⟩)], .func (.func 52) #[] #[.pointer (some ⟨k4, 0, none⟩), .pointer (some ⟨k3, 0, none⟩), .pointer (some ⟨k1, 0, none⟩)]] := by rw [hw0]; exact Row.new w 67 _
  have hR := h.below B0
  have hrb0 := hrb.below B0
  have cf := hx.cell (j := 1) rfl
  have hC := rCnt_any hR m hm.1
  go_enter Try.func28, Try.ntmps28
  go_upto_region 1 with fail
  rw [← hw0]
  clear hw0
  go_wp2_with (go_at_call 49; refine hC.mono ?_; rintro e w1 ⟨n, p1, b1, rfl, hn, rg1, hR1, hc1⟩)
  obtain ⟨N, rfl⟩ := Int.eq_ofNat_of_zero_le hn.1
  have hC1 : Chg k3 k4 w w1 := (Chg.below B0).trans hc1
  have hrb1 := hc1.row hrb0 n3 n4
  have hNm : (N : Int) ≤ 100 := by omega
  have hNm2 : (N : Int) ≤ m := hn.2
  have HRB := (show Hid (rb < w.heap.size) from hrb.lt)
  have HRB := (show Hid (rb < w.heap.size) from hrb.lt)
  have HRB := (show Hid (rb < w.heap.size) from hrb.lt)
  clear cf hC hR hrb0 hx B0 h hrb hn hc1 hm
  go_loopw [7, 12] (fun v i wr => ∃ (q : Nat) (ys : List PEnt) (p' : Nat) (bad' : Bool), q ≤ N ∧ i = .int .i64 q ∧ LB OEnt 54 2 w.heap.size wr v ys ∧ ys.length = q ∧ Rdg (rdN (cEn 16 64) q) l p1 b1 ys p' bad' ∧ Rdr k1 k3 k4 k5 k6 wr bv l p' bad' ∧ Chg k3 k4 w wr ∧ Row wr rb 67 [.func (.func 47) #[] #[.pointer (some ⟨k1, 0, none⟩), .pointer (some ⟨k3, 0, none⟩), .pointer (some ⟨k5, 0, none⟩)], .func (.func 49) #[] #[.pointer (some ⟨k6, 0, none⟩), .pointer (some ⟨k4, 0, none⟩)], .func (.func 50) #[] #[.pointer (some ⟨k1, 0, none⟩), .pointer (some ⟨k3, 0, none⟩), .pointer (some ⟨k5, 0, none⟩)], .func (.func 52) #[] #[.pointer (some ⟨k4, 0, none⟩), .pointer (some ⟨k3, 0, none⟩), .pointer (some ⟨k1, 0, none⟩)]]) (fun _ i _ => N - (intOf i).toNat)
  case atStart => exact ⟨0, [], p1, b1, Nat.zero_le _, rfl, LB.nil _ _ _ _ _, rfl, Rdg.nil rg1.1, hR1, hC1, hrb1⟩
  case round =>
    clear hR1 hC1 hrb1
    obtain ⟨q, ys, p2, b2, hq, rfl, hLB, hys, rg2, hR2, hc2, hrb2⟩ := hrel
    by_cases hql : q < N
    · have hqi : (q : Int) < (N : Int) := by omega
      have hO := dEnt_any hR2 rb hrb2
      have hfr := hLB.fr
      have hlt := hLB.lt
      have hsz := hc2.size
      have hbd : (ys.length + 1) * 48 ≤ 140737488355328 := by omega
      have HYS := (show Hid (ys.length = q) from hys)
      clear hys
      go_wp2_with (first
        | (go_at_call 29; refine hO.mono ?_; rintro e w5 ⟨row, y, p3, b3, rfl, hr5, rg3, hR3, hc3⟩; obtain ⟨l5, o5⟩ := len10OEnt hr5; have hr5' := hr5; obtain ⟨s1, s2, rfl, o1, o2⟩ := hr5'; obtain ⟨z1, y1, rfl, _⟩ := o1.rt.form; obtain ⟨z2, y2, rfl, _⟩ := o2.rt.form; have hLB5 := hLB.chg mov_oent hc3 hb3 hb4)
        | (at_builtin; refine wl_push mov_oent rfl _ _ _ rfl 54 2 48 _ Try.underlying23 Try.inf10OEnt rfl (by decide) w.heap.size u7 ys rfl hLB5 [.slice z1 y.1.length y1, .slice z2 y.2.length y2] y wr.heap.size hr5 l5 o5 hsz hlt rfl (Nat.le_trans hsz hc3.size) hbd (by decide) ?_; intro v7 w7 hLB7 hg7))
      go_roundw
      case rel => exact ⟨q + 1, ys ++ [y], p3, b3, by omega, by go_num, hLB7, by rw [List.length_append, HYS.out]; rfl, rg2.snoc rg3, hR3.above hlow hg7 (fun g hg => hfr g hg), (hc2.trans hc3).grown hg7 (fun g hg => hfr g hg), (hc3.row hrb2 n3 n4).grown hg7 (fun e => by have := hfr _ e; have := hrb2.lt; have := HRB.out; omega)⟩
      case measure => simp [intOf]; omega
    · have hqd : decide ((q : Int) < N) = false := by simp; omega
      have hqN : q = N := by omega
      go_wp2_with fail
      go_ret
      exact ⟨_, ys, p2, b2, rfl, hLB, by omega, Rdg.list rg1 (by rw [Int.toNat_natCast, ← hqN]; exact rg2), hR2, hc2⟩

set_option maxRecDepth 10000 in
set_option maxHeartbeats 2000000 in
theorem dLea_any {k1 k3 k4 k5 k6 : Nat} {w : World} {bv : Value} {l : List Int} {p : Nat} {bad : Bool} (h : Rdr k1 k3 k4 k5 k6 w bv l p bad) (rb : Nat) (hrb : Row w rb 67 [.func (.func 47) #[] #[.pointer (some ⟨k1, 0, none⟩), .pointer (some ⟨k3, 0, none⟩), .pointer (some ⟨k5, 0, none⟩)], .func (.func 49) #[] #[.pointer (some ⟨k6, 0, none⟩), .pointer (some ⟨k4, 0, none⟩)], .func (.func 50) #[] #[.pointer (some ⟨k1, 0, none⟩), .pointer (some ⟨k3, 0, none⟩), .pointer (some ⟨k5, 0, none⟩)], .func (.func 52) #[] #[.pointer (some ⟨k4, 0, none⟩), .pointer (some ⟨k3, 0, none⟩), .pointer (some ⟨k1, 0, none⟩)]]) :
    Calls Try.prog 31 #[.pointer (some ⟨rb, 0, none⟩)] w (RRp k1 k3 k4 k5 k6 w bv l p bad OLea (cLe 16).rd) := by
  have hlow := h.low
  have hb3 := h.r3.lt
  have hb4 := h.r4.lt
  have n3 := hrb.apart h.r3 (by decide)
  have n4 := hrb.apart h.r4 (by decide)
  have hrl := hrb.lt
  obtain ⟨w0, hw0⟩ : ∃ w0, w0 = (w.alloc (.cells #[.slice none 0 0, .int .i64 0, .int .i64 0] 56)).alloc (.cells #[.slice none 0 0, .int .i64 0, .int .i64 0] 56) := ⟨_, rfl⟩
  have B0 : Below w.heap.size w w0 := by rw [hw0]; exact below_and (below_alloc _ _) (Nat.le_refl _) (below_alloc _ _)
  have hs : Row w0 w.heap.size 56 [.slice none 0 0, .int .i64 0, .int .i64 0] := by rw [hw0]; exact rowA (Row.new w 56 _) _
  have hv : Row w0 (w.heap.size + 1) 56 [.slice none 0 0, .int .i64 0, .int .i64 0] := by
    rw [hw0]
    have := Row.new (w.alloc (.cells #[.slice none 0 0, .int .i64 0, .int .i64 0] 56)) 56 [.slice none 0 0, .int .i64 0, .int .i64 0]
    simpa using this
  have hR := h.below B0
  have hrb0 := hrb.below B0
  go_enter Try.func31, Try.ntmps31
  go_upto_region 2 with fail
  rw [← hw0]
  clear hw0
  obtain ⟨vb, hvb⟩ : ∃ vb, vb = w.heap.size + 1 := ⟨_, rfl⟩
  obtain ⟨sb, hsb⟩ : ∃ sb, sb = w.heap.size := ⟨_, rfl⟩
  rw [← hvb] at hv ⊢
  have hs : Row w0 sb 56 [.slice none 0 0, .int .i64 0, .int .i64 0] := by rw [hsb]; exact hs
  rw [← hsb]
  have hcI : Chg k3 k4 w w0 := Chg.below B0
  have hvs : vb ≠ sb := by omega
  have hv3 : vb ≠ k3 := by omega
  have hv4 : vb ≠ k4 := by omega
  have hs3 : sb ≠ k3 := by omega
  have hs4 : sb ≠ k4 := by omega
  have hvr : rb ≠ vb := by omega
  have hvw : w.heap.size ≤ vb := by omega
  have HSB := (show Hid (w.heap.size ≤ sb) by show _ ≤ _; omega)
  have HSB := (show Hid (w.heap.size ≤ sb) by show _ ≤ _; omega)
  clear hvb hsb h hrb B0
  have cf := hrb0.cell (j := 2) rfl
  have hC := rText_any hR 16
  go_upto_region 3 with (first
    | (go_at_call 50; refine hC.mono ?_; rintro e w1 ⟨v0, t0, p0, b0, rfl, ot0, rg0, hR0, hc0⟩; obtain ⟨aa0, cc0, hvv0, _⟩ := ot0.rt.form; subst hvv0; have hvx := hc0.row hv hv3 hv4)
    | (refine wl_set rfl _ _ _ rfl vb 0 _ rfl rfl _ _ hvx (show 0 < 3 by decide) (by kernel_rfl) rfl ?_; intro w2 hr0 hg0))
  have hs0 := (hc0.row hs hs3 hs4).grown hg0 (fun e => hvs (by injection e))
  have hrb1 := (hc0.row hrb0 n3 n4).grown hg0 (fun e => hvr (by injection e with e; exact e.symm))
  have hR0' := hR0.above hlow hg0 (fun g hg => by cases hg; exact hvw)
  have hcc0 : Chg k3 k4 w w2 := (hcI.trans hc0).grown hg0 (fun g hg => by cases hg; exact hvw)
  have hv0' : Row w2 vb 56 [.slice aa0 t0.length cc0, .int .i64 0, .int .i64 0] := hr0.out
  have hsz0 : w.heap.size ≤ w0.heap.size := hcI.size
  have ot0' := (ot0.gr hvx (by decide) hg0).mv (Mv.weak hsz0)
  clear cf hC hR hv hs hrb0 hvx hR0 hr0
  have cf := hrb1.cell (j := 0) rfl
  have hC := rNum_any hR0'
  go_upto_region 4 with (first
    | (go_at_call 47; refine hC.mono ?_; rintro e w3 ⟨t1, p1, b1, rfl, hn1, rg1, hR1, hc1⟩; have hvx := hc1.row hv0' hv3 hv4)
    | (refine wl_set rfl _ _ _ rfl vb 1 _ rfl rfl _ _ hvx (show 1 < 3 by decide) (by kernel_rfl) rfl ?_; intro w4 hr1 hg1))
  have hs1 := (hc1.row hs0 hs3 hs4).grown hg1 (fun e => hvs (by injection e))
  have hrb2 := (hc1.row hrb1 n3 n4).grown hg1 (fun e => hvr (by injection e with e; exact e.symm))
  have hR1' := hR1.above hlow hg1 (fun g hg => by cases hg; exact hvw)
  have hcc1 : Chg k3 k4 w w4 := (hcc0.trans hc1).grown hg1 (fun g hg => by cases hg; exact hvw)
  have hv1' : Row w4 vb 56 [.slice aa0 t0.length cc0, .int .i64 t1, .int .i64 0] := hr1.out
  have ot0_1 := (ot0'.mv (hc1.mv hb3 hb4)).gr hvx (by decide) hg1
  clear cf hC hR0' hv0' hs0 hrb1 hvx hR1 hr1
  have cf := hrb2.cell (j := 0) rfl
  have hC := rNum_any hR1'
  go_upto_region 5 with (first
    | (go_at_call 47; refine hC.mono ?_; rintro e w5 ⟨t2, p2, b2, rfl, hn2, rg2, hR2, hc2⟩; have hvx := hc2.row hv1' hv3 hv4)
    | (refine wl_set rfl _ _ _ rfl vb 2 _ rfl rfl _ _ hvx (show 2 < 3 by decide) (by kernel_rfl) rfl ?_; intro w6 hr2 hg2))
  have hs2 := (hc2.row hs1 hs3 hs4).grown hg2 (fun e => hvs (by injection e))
  have hrb3 := (hc2.row hrb2 n3 n4).grown hg2 (fun e => hvr (by injection e with e; exact e.symm))
  have hR2' := hR2.above hlow hg2 (fun g hg => by cases hg; exact hvw)
  have hcc2 : Chg k3 k4 w w6 := (hcc1.trans hc2).grown hg2 (fun g hg => by cases hg; exact hvw)
  have hv2' : Row w6 vb 56 [.slice aa0 t0.length cc0, .int .i64 t1, .int .i64 t2] := hr2.out
  have ot0_2 := (ot0_1.mv (hc2.mv hb3 hb4)).gr hvx (by decide) hg2
  clear cf hC hR1' hv1' hs1 hrb2 hvx hR2 hr2
  have hone : ∀ x ∈ ([.slice aa0 t0.length cc0, .int .i64 t1, .int .i64 t2] : List Value), x.oneCell' = true := by
    intro x hx
    simp only [List.mem_cons, List.not_mem_nil, or_false] at hx
    rcases hx with rfl | rfl | rfl <;> rfl
  go_wp2_with (first
    | (refine wl_load rfl _ _ rfl vb rfl _ _ hv2' _ Try.underlying56 rfl (by kernel_rfl) ?_)
    | (refine wl_store rfl _ _ _ rfl sb [.slice aa0 t0.length cc0, .int .i64 t1, .int .i64 t2] rfl rfl _ _ hs2 rfl (by kernel_rfl) hone ?_; intro wz hrz hgz))
  have hswz : w.heap.size ≤ sb := HSB.out
  refine bodyPost_ret (v := .agg ([.slice aa0 t0.length cc0, .int .i64 t1, .int .i64 t2] : List Value).toArray) (results_cell_row rfl _ _ sb _ _ (0, 0) _ (by rfl) hrz.out Try.underlying56 rfl (by kernel_rfl)) rfl ?_
  exact ⟨_, fLe (t0, t1, t2), _, _, rfl, ⟨_, _, _, rfl, ot0_2.gr hs2 (by decide) hgz, rfl⟩, (rg0.pair (rg1.pair rg2)).view fLe gLe, hR2'.above hlow hgz (fun g hg => by cases hg; exact hswz), hcc2.grown hgz (fun g hg => by cases hg; exact hswz)⟩

theorem Try.inf10OLea : (Try.prog.info? 56).map (fun i => (i.zero, i.size, i.bytes)) = some (some (.agg #[.slice none 0 0, .int .i64 0, .int .i64 0]), 3, 40) := by kernel_rfl
theorem len10OLea {G : Nat → Prop} {w : World} {r : List Value} {x : PEnt} (h : OLea G w r x) : r.length = 3 ∧ ∀ u ∈ r, u.oneCell' = true := by
  obtain ⟨a, p, q, rfl, o1, o2⟩ := h
  refine ⟨rfl, fun x hx => ?_⟩
  simp only [List.mem_cons, List.not_mem_nil, or_false] at hx
  rcases hx with rfl | rfl | rfl
  · exact o1.rt.one
  · rfl
  · rfl
set_option maxRecDepth 10000 in
set_option maxHeartbeats 2000000 in
theorem lLea_any {k1 k3 k4 k5 k6 : Nat} {w : World} {bv : Value} {l : List Int} {p : Nat} {bad : Bool} (h : Rdr k1 k3 k4 k5 k6 w bv l p bad) (rb : Nat) (hrb : Row w rb 67 [.func (.func 47) #[] #[.pointer (some ⟨k1, 0, none⟩), .pointer (some ⟨k3, 0, none⟩), .pointer (some ⟨k5, 0, none⟩)], .func (.func 49) #[] #[.pointer (some ⟨k6, 0, none⟩), .pointer (some ⟨k4, 0, none⟩)], .func (.func 50) #[] #[.pointer (some ⟨k1, 0, none⟩), .pointer (some ⟨k3, 0, none⟩), .pointer (some ⟨k5, 0, none⟩)], .func (.func 52) #[] #[.pointer (some ⟨k4, 0, none⟩), .pointer (some ⟨k3, 0, none⟩), .pointer (some ⟨k1, 0, none⟩)]]) (m : Int) (hm : 0 ≤ m ∧ m ≤ 100) :
    Calls Try.prog 30 #[.agg #[.func (.func 47) #[] #[.pointer (some ⟨k1, 0, none⟩), .pointer (some ⟨k3, 0, none⟩), .pointer (some ⟨k5, 0, none⟩)], .func (.func 49) #[] #[.pointer (some ⟨k6, 0, none⟩), .pointer (some ⟨k4, 0, none⟩)], .func (.func 50) #[] #[.pointer (some ⟨k1, 0, none⟩), .pointer (some ⟨k3, 0, none⟩), .pointer (some ⟨k5, 0, none⟩)], .func (.func 52) #[] #[.pointer (some ⟨k4, 0, none⟩), .pointer (some ⟨k3, 0, none⟩), .pointer (some ⟨k1, 0, none⟩)]], .int .i64 m, .func (.func 31) #[] #[.pointer (some ⟨rb, 0, none⟩)]] w (RLp k1 k3 k4 k5 k6 w bv l p bad OLea 56 3 m (cLm m (cLe 16)).rd) := by
  have hlow := h.low
  have hb3 := h.r3.lt
  have hb4 := h.r4.lt
  have n3 := hrb.apart h.r3 (by decide)
  have n4 := hrb.apart h.r4 (by decide)
  obtain ⟨w0, hw0⟩ : ∃ w0, w0 = w.alloc (.cells #[.func (.func 47) #[] #[.pointer (some ⟨k1, 0, none⟩), .pointer (some ⟨k3, 0, none⟩), .pointer (some ⟨k5, 0, none⟩)], .func (.func 49) #[] #[.pointer (some ⟨k6, 0, none⟩), .pointer (some ⟨k4, 0, none⟩)], .func (.func 50) #[] #[.pointer (some ⟨k1, 0, none⟩), .pointer (some ⟨k3, 0, none⟩), .pointer (some ⟨k5, 0, none⟩)], .func (.func 52) #[] #[.pointer (some ⟨k4, 0, none⟩), .pointer (some ⟨k3, 0, none⟩), .pointer (some ⟨k1, 0, none⟩)]] 67) := ⟨_, rfl⟩
  have B0 : Below w.heap.size w w0 := by rw [hw0]; exact below_alloc _ _
  have hx : Row w0 w.heap.size 67 [.func (.func 47) #[] #[.pointer (some ⟨k1, 0, none⟩), .pointer (some ⟨k3, 0, none⟩), .pointer (some ⟨k5, 0, none⟩)], .func (.func 49) #[] #[.pointer (some ⟨k6, 0, none⟩), .pointer (some ⟨k4, 0, none⟩)], .func (.func 50) #[] #[.pointer (some ⟨k1, 0, none⟩), .pointer (some ⟨k3, 0, none⟩), .pointer (some ⟨k5, 0, none⟩)], .func (.func 52) #[] #[.pointer (some ⟨k4, 0, none⟩), .pointer (some ⟨k3, 0, none⟩), .pointer (some ⟨k1, 0, none⟩)]] := by rw [hw0]; exact Row.new w 67 _
  have hR := h.below B0
  have hrb0 := hrb.below B0
  have cf := hx.cell (j := 1) rfl
  have hC := rCnt_any hR m hm.1
  go_enter Try.func30, Try.ntmps30
  go_upto_region 1 with fail
  rw [← hw0]
  clear hw0
  go_wp2_with (go_at_call 49; refine hC.mono ?_; rintro e w1 ⟨n, p1, b1, rfl, hn, rg1, hR1, hc1⟩)
  obtain ⟨N, rfl⟩ := Int.eq_ofNat_of_zero_le hn.1
  have hC1 : Chg k3 k4 w w1 := (Chg.below B0).trans hc1
  have hrb1 := hc1.row hrb0 n3 n4
  have hNm : (N : Int) ≤ 100 := by omega
  have hNm2 : (N : Int) ≤ m := hn.2
  have HRB := (show Hid (rb < w.heap.size) from hrb.lt)
  have HRB := (show Hid (rb < w.heap.size) from hrb.lt)
  clear cf hC hR hrb0 hx B0 h hrb hn hc1 hm
  go_loopw [7, 12] (fun v i wr => ∃ (q : Nat) (ys : List PEnt) (p' : Nat) (bad' : Bool), q ≤ N ∧ i = .int .i64 q ∧ LB OLea 56 3 w.heap.size wr v ys ∧ ys.length = q ∧ Rdg (rdN (cLe 16) q) l p1 b1 ys p' bad' ∧ Rdr k1 k3 k4 k5 k6 wr bv l p' bad' ∧ Chg k3 k4 w wr ∧ Row wr rb 67 [.func (.func 47) #[] #[.pointer (some ⟨k1, 0, none⟩), .pointer (some ⟨k3, 0, none⟩), .pointer (some ⟨k5, 0, none⟩)], .func (.func 49) #[] #[.pointer (some ⟨k6, 0, none⟩), .pointer (some ⟨k4, 0, none⟩)], .func (.func 50) #[] #[.pointer (some ⟨k1, 0, none⟩), .pointer (some ⟨k3, 0, none⟩), .pointer (some ⟨k5, 0, none⟩)], .func (.func 52) #[] #[.pointer (some ⟨k4, 0, none⟩), .pointer (some ⟨k3, 0, none⟩), .pointer (some ⟨k1, 0, none⟩)]]) (fun _ i _ => N - (intOf i).toNat)
  case atStart => exact ⟨0, [], p1, b1, Nat.zero_le _, rfl, LB.nil _ _ _ _ _, rfl, Rdg.nil rg1.1, hR1, hC1, hrb1⟩
  case round =>
    clear hR1 hC1 hrb1
    obtain ⟨q, ys, p2, b2, hq, rfl, hLB, hys, rg2, hR2, hc2, hrb2⟩ := hrel
    by_cases hql : q < N
    · have hqi : (q : Int) < (N : Int) := by omega
      have hO := dLea_any hR2 rb hrb2
      have hfr := hLB.fr
      have hlt := hLB.lt
      have hsz := hc2.size
      have hbd : (ys.length + 1) * 40 ≤ 140737488355328 := by omega
      have HYS := (show Hid (ys.length = q) from hys)
      clear hys
      go_wp2_with (first
        | (go_at_call 31; refine hO.mono ?_; rintro e w5 ⟨row, y, p3, b3, rfl, hr5, rg3, hR3, hc3⟩; obtain ⟨l5, o5⟩ := len10OLea hr5; have hr5' := hr5; obtain ⟨s1, i1, i2, rfl, o1, o2⟩ := hr5'; obtain ⟨z1, y1, rfl, _⟩ := o1.rt.form; have hLB5 := hLB.chg mov_olea hc3 hb3 hb4)
        | (at_builtin; refine wl_push mov_olea rfl _ _ _ rfl 56 3 40 _ Try.underlying24 Try.inf10OLea rfl (by decide) w.heap.size u7 ys rfl hLB5 [.slice z1 y.1.length y1, .int .i64 i1, .int .i64 i2] y wr.heap.size hr5 l5 o5 hsz hlt rfl (Nat.le_trans hsz hc3.size) hbd (by decide) ?_; intro v7 w7 hLB7 hg7))
      go_roundw
      case rel => exact ⟨q + 1, ys ++ [y], p3, b3, by omega, by go_num, hLB7, by rw [List.length_append, HYS.out]; rfl, rg2.snoc rg3, hR3.above hlow hg7 (fun g hg => hfr g hg), (hc2.trans hc3).grown hg7 (fun g hg => hfr g hg), (hc3.row hrb2 n3 n4).grown hg7 (fun e => by have := hfr _ e; have := hrb2.lt; have := HRB.out; omega)⟩
      case measure => simp [intOf]; omega
    · have hqd : decide ((q : Int) < N) = false := by simp; omega
      have hqN : q = N := by omega
      go_wp2_with fail
      go_ret
      exact ⟨_, ys, p2, b2, rfl, hLB, by omega, Rdg.list rg1 (by rw [Int.toNat_natCast, ← hqN]; exact rg2), hR2, hc2⟩

set_option maxRecDepth 10000 in
set_option maxHeartbeats 2000000 in
theorem dSes_any {k1 k3 k4 k5 k6 : Nat} {w : World} {bv : Value} {l : List Int} {p : Nat} {bad : Bool} (h : Rdr k1 k3 k4 k5 k6 w bv l p bad) (rb : Nat) (hrb : Row w rb 67 [.func (.func 47) #[] #[.pointer (some ⟨k1, 0, none⟩), .pointer (some ⟨k3, 0, none⟩), .pointer (some ⟨k5, 0, none⟩)], .func (.func 49) #[] #[.pointer (some ⟨k6, 0, none⟩), .pointer (some ⟨k4, 0, none⟩)], .func (.func 50) #[] #[.pointer (some ⟨k1, 0, none⟩), .pointer (some ⟨k3, 0, none⟩), .pointer (some ⟨k5, 0, none⟩)], .func (.func 52) #[] #[.pointer (some ⟨k4, 0, none⟩), .pointer (some ⟨k3, 0, none⟩), .pointer (some ⟨k1, 0, none⟩)]]) :
    Calls Try.prog 33 #[.pointer (some ⟨rb, 0, none⟩)] w (RRp k1 k3 k4 k5 k6 w bv l p bad OSes (cSe 64).rd) := by
  have hlow := h.low
  have hb3 := h.r3.lt
  have hb4 := h.r4.lt
  have n3 := hrb.apart h.r3 (by decide)
  have n4 := hrb.apart h.r4 (by decide)
  have hrl := hrb.lt
  obtain ⟨w0, hw0⟩ : ∃ w0, w0 = (w.alloc (.cells #[.int .i64 0, .int .i64 0, .int .i64 0, .slice none 0 0] 48)).alloc (.cells #[.int .i64 0, .int .i64 0, .int .i64 0, .slice none 0 0] 48) := ⟨_, rfl⟩
  have B0 : Below w.heap.size w w0 := by rw [hw0]; exact below_and (below_alloc _ _) (Nat.le_refl _) (below_alloc _ _)
  have hs : Row w0 w.heap.size 48 [.int .i64 0, .int .i64 0, .int .i64 0, .slice none 0 0] := by rw [hw0]; exact rowA (Row.new w 48 _) _
  have hv : Row w0 (w.heap.size + 1) 48 [.int .i64 0, .int .i64 0, .int .i64 0, .slice none 0 0] := by
    rw [hw0]
    have := Row.new (w.alloc (.cells #[.int .i64 0, .int .i64 0, .int .i64 0, .slice none 0 0] 48)) 48 [.int .i64 0, .int .i64 0, .int .i64 0, .slice none 0 0]
    simpa using this
  have hR := h.below B0
  have hrb0 := hrb.below B0
  go_enter Try.func33, Try.ntmps33
  go_upto_region 2 with fail
  rw [← hw0]
  clear hw0
  obtain ⟨vb, hvb⟩ : ∃ vb, vb = w.heap.size + 1 := ⟨_, rfl⟩
  obtain ⟨sb, hsb⟩ : ∃ sb, sb = w.heap.size := ⟨_, rfl⟩
  rw [← hvb] at hv ⊢
  have hs : Row w0 sb 48 [.int .i64 0, .int .i64 0, .int .i64 0, .slice none 0 0] := by rw [hsb]; exact hs
  rw [← hsb]
  have hcI : Chg k3 k4 w w0 := Chg.below B0
  have hvs : vb ≠ sb := by omega
  have hv3 : vb ≠ k3 := by omega
  have hv4 : vb ≠ k4 := by omega
  have hs3 : sb ≠ k3 := by omega
  have hs4 : sb ≠ k4 := by omega
  have hvr : rb ≠ vb := by omega
  have hvw : w.heap.size ≤ vb := by omega
  have HSB := (show Hid (w.heap.size ≤ sb) by show _ ≤ _; omega)
  clear hvb hsb h hrb B0
  have cf := hrb0.cell (j := 0) rfl
  have hC := rNum_any hR
  go_upto_region 3 with (first
    | (go_at_call 47; refine hC.mono ?_; rintro e w1 ⟨t0, p0, b0, rfl, hn0, rg0, hR0, hc0⟩; have hvx := hc0.row hv hv3 hv4)
    | (refine wl_set rfl _ _ _ rfl vb 0 _ rfl rfl _ _ hvx (show 0 < 4 by decide) (by kernel_rfl) rfl ?_; intro w2 hr0 hg0))
  have hs0 := (hc0.row hs hs3 hs4).grown hg0 (fun e => hvs (by injection e))
  have hrb1 := (hc0.row hrb0 n3 n4).grown hg0 (fun e => hvr (by injection e with e; exact e.symm))
  have hR0' := hR0.above hlow hg0 (fun g hg => by cases hg; exact hvw)
  have hcc0 : Chg k3 k4 w w2 := (hcI.trans hc0).grown hg0 (fun g hg => by cases hg; exact hvw)
  have hv0' : Row w2 vb 48 [.int .i64 t0, .int .i64 0, .int .i64 0, .slice none 0 0] := hr0.out
  clear cf hC hR hv hs hrb0 hvx hR0 hr0
  have cf := hrb1.cell (j := 0) rfl
  have hC := rNum_any hR0'
  go_upto_region 4 with (first
    | (go_at_call 47; refine hC.mono ?_; rintro e w3 ⟨t1, p1, b1, rfl, hn1, rg1, hR1, hc1⟩; have hvx := hc1.row hv0' hv3 hv4)
    | (refine wl_set rfl _ _ _ rfl vb 1 _ rfl rfl _ _ hvx (show 1 < 4 by decide) (by kernel_rfl) rfl ?_; intro w4 hr1 hg1))
  have hs1 := (hc1.row hs0 hs3 hs4).grown hg1 (fun e => hvs (by injection e))
  have hrb2 := (hc1.row hrb1 n3 n4).grown hg1 (fun e => hvr (by injection e with e; exact e.symm))
  have hR1' := hR1.above hlow hg1 (fun g hg => by cases hg; exact hvw)
  have hcc1 : Chg k3 k4 w w4 := (hcc0.trans hc1).grown hg1 (fun g hg => by cases hg; exact hvw)
  have hv1' : Row w4 vb 48 [.int .i64 t0, .int .i64 t1, .int .i64 0, .slice none 0 0] := hr1.out
  clear cf hC hR0' hv0' hs0 hrb1 hvx hR1 hr1
  have cf := hrb2.cell (j := 0) rfl
  have hC := rNum_any hR1'
  go_upto_region 5 with (first
    | (go_at_call 47; refine hC.mono ?_; rintro e w5 ⟨t2, p2, b2, rfl, hn2, rg2, hR2, hc2⟩; have hvx := hc2.row hv1' hv3 hv4)
    | (refine wl_set rfl _ _ _ rfl vb 2 _ rfl rfl _ _ hvx (show 2 < 4 by decide) (by kernel_rfl) rfl ?_; intro w6 hr2 hg2))
  have hs2 := (hc2.row hs1 hs3 hs4).grown hg2 (fun e => hvs (by injection e))
  have hrb3 := (hc2.row hrb2 n3 n4).grown hg2 (fun e => hvr (by injection e with e; exact e.symm))
  have hR2' := hR2.above hlow hg2 (fun g hg => by cases hg; exact hvw)
  have hcc2 : Chg k3 k4 w w6 := (hcc1.trans hc2).grown hg2 (fun g hg => by cases hg; exact hvw)
  have hv2' : Row w6 vb 48 [.int .i64 t0, .int .i64 t1, .int .i64 t2, .slice none 0 0] := hr2.out
  clear cf hC hR1' hv1' hs1 hrb2 hvx hR2 hr2
  have cf := hrb3.cell (j := 2) rfl
  have hC := rText_any hR2' 64
  go_upto_region 6 with (first
    | (go_at_call 50; refine hC.mono ?_; rintro e w7 ⟨v3, t3, p3, b3, rfl, ot3, rg3, hR3, hc3⟩; obtain ⟨aa3, cc3, hvv3, _⟩ := ot3.rt.form; subst hvv3; have hvx := hc3.row hv2' hv3 hv4)
    | (refine wl_set rfl _ _ _ rfl vb 3 _ rfl rfl _ _ hvx (show 3 < 4 by decide) (by kernel_rfl) rfl ?_; intro w8 hr3 hg3))
  have hs3 := (hc3.row hs2 hs3 hs4).grown hg3 (fun e => hvs (by injection e))
  have hrb4 := (hc3.row hrb3 n3 n4).grown hg3 (fun e => hvr (by injection e with e; exact e.symm))
  have hR3' := hR3.above hlow hg3 (fun g hg => by cases hg; exact hvw)
  have hcc3 : Chg k3 k4 w w8 := (hcc2.trans hc3).grown hg3 (fun g hg => by cases hg; exact hvw)
  have hv3' : Row w8 vb 48 [.int .i64 t0, .int .i64 t1, .int .i64 t2, .slice aa3 t3.length cc3] := hr3.out
  have hsz3 : w.heap.size ≤ w6.heap.size := hcc2.size
  have ot3' := (ot3.gr hvx (by decide) hg3).mv (Mv.weak hsz3)
  clear cf hC hR2' hv2' hs2 hrb3 hvx hR3 hr3
  have hone : ∀ x ∈ ([.int .i64 t0, .int .i64 t1, .int .i64 t2, .slice aa3 t3.length cc3] : List Value), x.oneCell' = true := by
    intro x hx
    simp only [List.mem_cons, List.not_mem_nil, or_false] at hx
    rcases hx with rfl | rfl | rfl | rfl <;> rfl
  go_wp2_with (first
    | (refine wl_load rfl _ _ rfl vb rfl _ _ hv3' _ Try.underlying48 rfl (by kernel_rfl) ?_)
    | (refine wl_store rfl _ _ _ rfl sb [.int .i64 t0, .int .i64 t1, .int .i64 t2, .slice aa3 t3.length cc3] rfl rfl _ _ hs3 rfl (by kernel_rfl) hone ?_; intro wz hrz hgz))
  have hswz : w.heap.size ≤ sb := HSB.out
  refine bodyPost_ret (v := .agg ([.int .i64 t0, .int .i64 t1, .int .i64 t2, .slice aa3 t3.length cc3] : List Value).toArray) (results_cell_row rfl _ _ sb _ _ (0, 0) _ (by rfl) hrz.out Try.underlying48 rfl (by kernel_rfl)) rfl ?_
  exact ⟨_, fSe (t0, t1, t2, t3), _, _, rfl, ⟨_, _, _, _, _, rfl, ot3'.gr hs3 (by decide) hgz, rfl⟩, (rg0.pair (rg1.pair (rg2.pair rg3))).view fSe gSe, hR3'.above hlow hgz (fun g hg => by cases hg; exact hswz), hcc3.grown hgz (fun g hg => by cases hg; exact hswz)⟩

theorem Try.inf10OSes : (Try.prog.info? 48).map (fun i => (i.zero, i.size, i.bytes)) = some (some (.agg #[.int .i64 0, .int .i64 0, .int .i64 0, .slice none 0 0]), 4, 48) := by kernel_rfl
theorem len10OSes {G : Nat → Prop} {w : World} {r : List Value} {x : PEnt} (h : OSes G w r x) : r.length = 4 ∧ ∀ u ∈ r, u.oneCell' = true := by
  obtain ⟨c, d, k, a, t, rfl, o1, o2⟩ := h
  refine ⟨rfl, fun x hx => ?_⟩
  simp only [List.mem_cons, List.not_mem_nil, or_false] at hx
  rcases hx with rfl | rfl | rfl | rfl
  · rfl
  · rfl
  · rfl
  · exact o1.rt.one
set_option maxRecDepth 10000 in
set_option maxHeartbeats 2000000 in
theorem lSes_any {k1 k3 k4 k5 k6 : Nat} {w : World} {bv : Value} {l : List Int} {p : Nat} {bad : Bool} (h : Rdr k1 k3 k4 k5 k6 w bv l p bad) (rb : Nat) (hrb : Row w rb 67 [.func (.func 47) #[] #[.pointer (some ⟨k1, 0, none⟩), .pointer (some ⟨k3, 0, none⟩), .pointer (some ⟨k5, 0, none⟩)], .func (.func 49) #[] #[.pointer (some ⟨k6, 0, none⟩), .pointer (some ⟨k4, 0, none⟩)], .func (.func 50) #[] #[.pointer (some ⟨k1, 0, none⟩), .pointer (some ⟨k3, 0, none⟩), .pointer (some ⟨k5, 0, none⟩)], .func (.func 52) #[] #[.pointer (some ⟨k4, 0, none⟩), .pointer (some ⟨k3, 0, none⟩), .pointer (some ⟨k1, 0, none⟩)]]) (m : Int) (hm : 0 ≤ m ∧ m ≤ 100) :
    Calls Try.prog 32 #[.agg #[.func (.func 47) #[] #[.pointer (some ⟨k1, 0, none⟩), .pointer (some ⟨k3, 0, none⟩), .pointer (some ⟨k5, 0, none⟩)], .func (.func 49) #[] #[.pointer (some ⟨k6, 0, none⟩), .pointer (some ⟨k4, 0, none⟩)], .func (.func 50) #[] #[.pointer (some ⟨k1, 0, none⟩), .pointer (some ⟨k3, 0, none⟩), .pointer (some ⟨k5, 0, none⟩)], .func (.func 52) #[] #[.pointer (some ⟨k4, 0, none⟩), .pointer (some ⟨k3, 0, none⟩), .pointer (some ⟨k1, 0, none⟩)]], .int .i64 m, .func (.func 33) #[] #[.pointer (some ⟨rb, 0, none⟩)]] w (RLp k1 k3 k4 k5 k6 w bv l p bad OSes 48 4 m (cLm m (cSe 64)).rd) := by
  have hlow := h.low
  have hb3 := h.r3.lt
  have hb4 := h.r4.lt
  have n3 := hrb.apart h.r3 (by decide)
  have n4 := hrb.apart h.r4 (by decide)
  obtain ⟨w0, hw0⟩ : ∃ w0, w0 = w.alloc (.cells #[.func (.func 47) #[] #[.pointer (some ⟨k1, 0, none⟩), .pointer (some ⟨k3, 0, none⟩), .pointer (some ⟨k5, 0, none⟩)], .func (.func 49) #[] #[.pointer (some ⟨k6, 0, none⟩), .pointer (some ⟨k4, 0, none⟩)], .func (.func 50) #[] #[.pointer (some ⟨k1, 0, none⟩), .pointer (some ⟨k3, 0, none⟩), .pointer (some ⟨k5, 0, none⟩)], .func (.func 52) #[] #[.pointer (some ⟨k4, 0, none⟩), .pointer (some ⟨k3, 0, none⟩), .pointer (some ⟨k1, 0, none⟩)]] 67) := ⟨_, rfl⟩
  have B0 : Below w.heap.size w w0 := by rw [hw0]; exact below_alloc _ _
  have hx : Row w0 w.heap.size 67 [.func (.func 47) #[] #[.pointer (some ⟨k1, 0, none⟩), .pointer (some ⟨k3, 0, none⟩), .pointer (some ⟨k5, 0, none⟩)], .func (.func 49) #[] #[.pointer (some ⟨k6, 0, none⟩), .pointer (some ⟨k4, 0, none⟩)], .func (.func 50) #[] #[.pointer (some ⟨k1, 0, none⟩), .pointer (some ⟨k3, 0, none⟩), .pointer (some ⟨k5, 0, none⟩)], .func (.func 52) #[] #[.pointer (some ⟨k4, 0, none⟩), .pointer (some ⟨k3, 0, none⟩), .pointer (some ⟨k1, 0, none⟩)]] := by rw [hw0]; exact Row.new w 67 _
  have hR := h.below B0
  have hrb0 := hrb.below B0
  have cf := hx.cell (j := 1) rfl
  have hC := rCnt_any hR m hm.1
  go_enter Try.func32, Try.ntmps32
  go_upto_region 1 with fail
  rw [← hw0]
  clear hw0
  go_wp2_with (go_at_call 49; refine hC.mono ?_; rintro e w1 ⟨n, p1, b1, rfl, hn, rg1, hR1, hc1⟩)
  obtain ⟨N, rfl⟩ := Int.eq_ofNat_of_zero_le hn.1
  have hC1 : Chg k3 k4 w w1 := (Chg.below B0).trans hc1
  have hrb1 := hc1.row hrb0 n3 n4
  have hNm : (N : Int) ≤ 100 := by omega
  have hNm2 : (N : Int) ≤ m := hn.2
  have HRB := (show Hid (rb < w.heap.size) from hrb.lt)
  clear cf hC hR hrb0 hx B0 h hrb hn hc1 hm
  go_loopw [7, 12] (fun v i wr => ∃ (q : Nat) (ys : List PEnt) (p' : Nat) (bad' : Bool), q ≤ N ∧ i = .int .i64 q ∧ LB OSes 48 4 w.heap.size wr v ys ∧ ys.length = q ∧ Rdg (rdN (cSe 64) q) l p1 b1 ys p' bad' ∧ Rdr k1 k3 k4 k5 k6 wr bv l p' bad' ∧ Chg k3 k4 w wr ∧ Row wr rb 67 [.func (.func 47) #[] #[.pointer (some ⟨k1, 0, none⟩), .pointer (some ⟨k3, 0, none⟩), .pointer (some ⟨k5, 0, none⟩)], .func (.func 49) #[] #[.pointer (some ⟨k6, 0, none⟩), .pointer (some ⟨k4, 0, none⟩)], .func (.func 50) #[] #[.pointer (some ⟨k1, 0, none⟩), .pointer (some ⟨k3, 0, none⟩), .pointer (some ⟨k5, 0, none⟩)], .func (.func 52) #[] #[.pointer (some ⟨k4, 0, none⟩), .pointer (some ⟨k3, 0, none⟩), .pointer (some ⟨k1, 0, none⟩)]]) (fun _ i _ => N - (intOf i).toNat)
  case atStart => exact ⟨0, [], p1, b1, Nat.zero_le _, rfl, LB.nil _ _ _ _ _, rfl, Rdg.nil rg1.1, hR1, hC1, hrb1⟩
  case round =>
    clear hR1 hC1 hrb1
    obtain ⟨q, ys, p2, b2, hq, rfl, hLB, hys, rg2, hR2, hc2, hrb2⟩ := hrel
    by_cases hql : q < N
    · have hqi : (q : Int) < (N : Int) := by omega
      have hO := dSes_any hR2 rb hrb2
      have hfr := hLB.fr
      have hlt := hLB.lt
      have hsz := hc2.size
      have hbd : (ys.length + 1) * 48 ≤ 140737488355328 := by omega
      have HYS := (show Hid (ys.length = q) from hys)
      clear hys
      go_wp2_with (first
        | (go_at_call 33; refine hO.mono ?_; rintro e w5 ⟨row, y, p3, b3, rfl, hr5, rg3, hR3, hc3⟩; obtain ⟨l5, o5⟩ := len10OSes hr5; have hr5' := hr5; obtain ⟨i1, i2, i3, s1, tt, rfl, o1, rfl⟩ := hr5'; obtain ⟨z1, y1, rfl, _⟩ := o1.rt.form; have hLB5 := hLB.chg mov_oses hc3 hb3 hb4)
        | (at_builtin; refine wl_push mov_oses rfl _ _ _ rfl 48 4 48 _ Try.underlying25 Try.inf10OSes rfl (by decide) w.heap.size u7 ys rfl hLB5 [.int .i64 i1, .int .i64 i2, .int .i64 i3, .slice z1 tt.length y1] ([i1], i2 :: i3 :: tt) wr.heap.size hr5 l5 o5 hsz hlt rfl (Nat.le_trans hsz hc3.size) hbd (by decide) ?_; intro v7 w7 hLB7 hg7))
      go_roundw
      case rel => exact ⟨q + 1, ys ++ [([i1], i2 :: i3 :: tt)], p3, b3, by omega, by go_num, hLB7, by rw [List.length_append, HYS.out]; rfl, rg2.snoc rg3, hR3.above hlow hg7 (fun g hg => hfr g hg), (hc2.trans hc3).grown hg7 (fun g hg => hfr g hg), (hc3.row hrb2 n3 n4).grown hg7 (fun e => by have := hfr _ e; have := hrb2.lt; have := HRB.out; omega)⟩
      case measure => simp [intOf]; omega
    · have hqd : decide ((q : Int) < N) = false := by simp; omega
      have hqN : q = N := by omega
      go_wp2_with fail
      go_ret
      exact ⟨_, ys, p2, b2, rfl, hLB, by omega, Rdg.list rg1 (by rw [Int.toNat_natCast, ← hqN]; exact rg2), hR2, hc2⟩
end Go.Proofs.Ytejkkhlblnepeaa
