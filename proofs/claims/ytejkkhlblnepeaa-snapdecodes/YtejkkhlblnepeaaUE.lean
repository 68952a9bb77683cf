/- catenarylaw10.SnapDecodes: its walk. -/
import Derived.Test.YtejkkhlblnepeaaUC
import Derived.Test.YtejkkhlblnepeaaW2
import Derived.Test.YtejkkhlblnepeaaRB
import Derived.Deep.CutRange
import Derived.Test.YtejkkhlblnepeaaUA
import Derived.Test.YtejkkhlblnepeaaXH
import Derived.Laws.BitsAllLaws
section
set_option linter.unusedVariables false
set_option linter.unusedSimpArgs false
namespace Go.Proofs.Ytejkkhlblnepeaa
open Go.RowKit Oct Kvl

theorem one_inU {ab : Option Addr} {n c : Nat} {i : Int} {b : Bool} : ∀ v ∈ ([.slice ab n c, .int .i64 i, .bool b] : List Value), v.oneCell' = true := by
  intro x hx
  simp only [List.mem_cons, List.not_mem_nil, or_false] at hx
  rcases hx with rfl | rfl | rfl <;> rfl
theorem Kvl.Rdg.badU {α : Type} {rd : List Int → Option (α × List Int)} {l : List Int} {p : Nat} {x : α} (hp : p ≤ l.length) : Rdg rd l p true x p true := ⟨hp, fun e => (by cases e), fun e => (by cases e)⟩
/-- The ends of the document's readings. -/
def INp (w : World) (bv : Value) (l : List Int) (p : Nat) (bad : Bool) (e : Ending) (w' : World) : Prop :=
  ∃ (n : Int) (p' : Nat) (bad' : Bool), e = .returned (.tuple #[.agg #[bv, .int .i64 p', .bool bad'], .int .i64 n]) ∧ (0 ≤ n ∧ n ≤ 2147483647) ∧ Rdg cN.rd l p bad n p' bad' ∧ Below w.heap.size w w'
def ITp (w : World) (bv : Value) (l : List Int) (p : Nat) (bad : Bool) (e : Ending) (w' : World) : Prop :=
  ∃ (v : Value) (t : List Int) (p' : Nat) (bad' : Bool), e = .returned (.tuple #[.agg #[bv, .int .i64 p', .bool bad'], v]) ∧ OT (From w.heap.size) w' v t ∧ Rdg (cTm 64).rd l p bad t p' bad' ∧ Below w.heap.size w w'

set_option maxRecDepth 10000 in
set_option maxHeartbeats 2000000 in
theorem refNumR (w : World) (ab : Option Addr) (cb : Nat) (l : List Int) (p : Nat) (bad : Bool) (hrd : Rd w (.slice ab l.length cb) l) (hp : p ≤ l.length) (hl : l.length ≤ 140737488355300) :
    Calls Try.prog 34 #[.agg #[.slice ab l.length cb, .int .i64 p, .bool bad]] w (INp w (.slice ab l.length cb) l p bad) := by
  obtain ⟨w2, hw2⟩ : ∃ w2, w2 = (w.alloc (.cells #[.slice ab l.length cb, .int .i64 p, .bool bad] 76)).alloc (.cells #[.slice none 0 0, .int .i64 0, .bool false] 76) := ⟨_, rfl⟩
  have ra : Row w2 w.heap.size 76 [.slice ab l.length cb, .int .i64 p, .bool bad] := by rw [hw2]; exact rowA (Row.new w _ _) _
  have rr : Row w2 (w.heap.size + 1) 76 [.slice none 0 0, .int .i64 0, .bool false] := by
    rw [hw2]
    have := Row.new (w.alloc (.cells #[.slice ab l.length cb, .int .i64 p, .bool bad] 76)) 76 [.slice none 0 0, .int .i64 0, .bool false]
    simpa using this
  have hB : Below w.heap.size w w2 := by rw [hw2]; exact below_and (below_alloc _ _) (Nat.le_refl _) (below_alloc _ _)
  obtain ⟨kb, hkb⟩ : ∃ kb, kb = w.heap.size + 1 := ⟨_, rfl⟩
  have hkl : w.heap.size ≤ kb := by omega
  have hG := refGetInt_any w2 _ l p (hrd.below hB) (by omega)
  obtain ⟨n, nx, er, hg, hnb, hq⟩ : ∃ n nx er, getI l p = (n, nx, er) ∧ (0 ≤ n ∧ n ≤ 2147483647) ∧ ((er = 11 ∧ cN.rd (l.drop p) = none) ∨ (er = 0 ∧ ∃ p' : Nat, nx = (p' : Int) ∧ p' ≤ l.length ∧ cN.rd (l.drop p) = some (n, l.drop p'))) := by
    rcases gI hrd.1 hp with ⟨h1, g1⟩ | ⟨n, p', h1, g1, q1⟩
    · exact ⟨_, _, _, g1, by omega, .inl ⟨rfl, h1⟩⟩
    · have hb := okI_bd (cN_law.bwd _ _ _ (hrd.1.drop p) h1).1
      exact ⟨_, _, _, g1, hb, .inr ⟨rfl, p', rfl, q1, h1⟩⟩
  rw [hg] at hG
  have HQ := (show Hid (_) from hq)
  clear hg hq
  have c0 := ra.cell (j := 0) rfl
  have c1 := ra.cell (j := 1) rfl
  go_enter Try.func34, Try.ntmps34
  go_upto_region 1 with fail
  rw [← hw2]
  clear hw2
  rw [← hkb] at rr ⊢
  clear hkb
  go_upto_region 2 with (go_at_call 53; refine hG.mono ?_; rintro e w3 ⟨rfl, hb3⟩)
  have r3 := ra.below hb3
  have s3 := rr.below hb3
  have B3 := below_and hB (Nat.le_refl _) hb3
  have k0 := r3.cell (j := 0) rfl
  have k1 := r3.cell (j := 1) rfl
  have k2 := r3.cell (j := 2) rfl
  clear c0 c1 hG ra rr
  cases bad with
  | true =>
    go_wp2_with (refine wl_store rfl _ _ _ rfl kb [.slice ab l.length cb, .int .i64 (p : Int), .bool true] rfl rfl _ _ s3 rfl (by kernel_rfl) one_inU ?_; intro w5 hr5 hg5)
    refine bodyPost_ret (results_ctU rfl _ _ kb _ _ (0, 0) _ (by rfl) hr5.out Try.underlying76 rfl (by kernel_rfl)) rfl ?_
    exact ⟨0, p, true, rfl, by omega, Rdg.badU hp, B3.trans (grown_below hg5 B3.size (fun k hk => by cases hk; exact hkl))⟩
  | false =>
    rcases HQ.out with ⟨he, hn⟩ | ⟨he, q, hq, hq2, hn⟩
    · subst he
      have HNN := (show Hid (_) from hn)
      clear hn HQ
      go_wp2_with (refine wl_store rfl _ _ _ rfl kb [.slice ab l.length cb, .int .i64 (p : Int), .bool true] rfl rfl _ _ s3 rfl (by kernel_rfl) one_inU ?_; intro w5 hr5 hg5)
      refine bodyPost_ret (results_ctU rfl _ _ kb _ _ (0, 0) _ (by rfl) hr5.out Try.underlying76 rfl (by kernel_rfl)) rfl ?_
      exact ⟨0, p, true, rfl, by omega, Rdg.no HNN.out hp, B3.trans (grown_below hg5 B3.size (fun k hk => by cases hk; exact hkl))⟩
    · subst he
      subst hq
      have HNN := (show Hid (_) from hn)
      clear hn HQ
      go_wp2_with (refine wl_store rfl _ _ _ rfl kb [.slice ab l.length cb, .int .i64 (q : Int), .bool false] rfl rfl _ _ s3 rfl (by kernel_rfl) one_inU ?_; intro w5 hr5 hg5)
      refine bodyPost_ret (results_ctU rfl _ _ kb _ _ (0, 0) _ (by rfl) hr5.out Try.underlying76 rfl (by kernel_rfl)) rfl ?_
      exact ⟨n, q, false, rfl, hnb, Rdg.ok HNN.out hq2, B3.trans (grown_below hg5 B3.size (fun k hk => by cases hk; exact hkl))⟩

set_option maxRecDepth 10000 in
set_option maxHeartbeats 2000000 in
theorem refGetR (w : World) (ab : Option Addr) (cb : Nat) (l : List Int) (p : Nat) (bad : Bool) (hrd : Rd w (.slice ab l.length cb) l) (hp : p ≤ l.length) (hl : l.length ≤ 140737488355300) :
    Calls Try.prog 35 #[.agg #[.slice ab l.length cb, .int .i64 p, .bool bad]] w (ITp w (.slice ab l.length cb) l p bad) := by
  obtain ⟨w2, hw2⟩ : ∃ w2, w2 = (w.alloc (.cells #[.slice ab l.length cb, .int .i64 p, .bool bad] 76)).alloc (.cells #[.slice none 0 0, .int .i64 0, .bool false] 76) := ⟨_, rfl⟩
  have ra : Row w2 w.heap.size 76 [.slice ab l.length cb, .int .i64 p, .bool bad] := by rw [hw2]; exact rowA (Row.new w _ _) _
  have rr : Row w2 (w.heap.size + 1) 76 [.slice none 0 0, .int .i64 0, .bool false] := by
    rw [hw2]
    have := Row.new (w.alloc (.cells #[.slice ab l.length cb, .int .i64 p, .bool bad] 76)) 76 [.slice none 0 0, .int .i64 0, .bool false]
    simpa using this
  have hB : Below w.heap.size w w2 := by rw [hw2]; exact below_and (below_alloc _ _) (Nat.le_refl _) (below_alloc _ _)
  obtain ⟨kb, hkb⟩ : ∃ kb, kb = w.heap.size + 1 := ⟨_, rfl⟩
  have hkl : w.heap.size ≤ kb := by omega
  have hG := refGetBytes_any w2 _ l p 64 (hrd.below hB) hl
  have hby := getB_byt l p 64 hrd.1
  obtain ⟨t, nx, er, hg, hq⟩ : ∃ t nx er, getB l p 64 = (t, nx, er) ∧ ((er = 11 ∧ (cTm 64).rd (l.drop p) = none) ∨ (er = 0 ∧ ∃ p' : Nat, nx = (p' : Int) ∧ p' ≤ l.length ∧ (cTm 64).rd (l.drop p) = some (t, l.drop p'))) := by
    rcases gBm (m := 64) hrd.1 hp with ⟨h1, g1⟩ | ⟨n, p', h1, g1, q1⟩
    · exact ⟨_, _, _, g1, .inl ⟨rfl, h1⟩⟩
    · exact ⟨_, _, _, g1, .inr ⟨rfl, p', rfl, q1, h1⟩⟩
  rw [hg] at hG hby
  have HQ := (show Hid (_) from hq)
  clear hg hq
  have c0 := ra.cell (j := 0) rfl
  have c1 := ra.cell (j := 1) rfl
  go_enter Try.func35, Try.ntmps35
  go_upto_region 1 with fail
  rw [← hw2]
  clear hw2
  rw [← hkb] at rr ⊢
  clear hkb
  go_upto_region 2 with (go_at_call 54; refine hG.mono ?_; rintro e w3 ⟨v3, rfl, ho3, hf3, hb3⟩; obtain ⟨a3, cp3, hv3, _⟩ := ho3.form; subst hv3)
  have r3 := ra.below hb3
  have s3 := rr.below hb3
  have B3 := below_and hB (Nat.le_refl _) hb3
  have k0 := r3.cell (j := 0) rfl
  have k1 := r3.cell (j := 1) rfl
  have k2 := r3.cell (j := 2) rfl
  clear c0 c1 hG ra rr
  cases bad with
  | true =>
    go_wp2_with (refine wl_store rfl _ _ _ rfl kb [.slice ab l.length cb, .int .i64 (p : Int), .bool true] rfl rfl _ _ s3 rfl (by kernel_rfl) one_inU ?_; intro w5 hr5 hg5)
    refine bodyPost_ret (results_ctU rfl _ _ kb _ _ (0, 0) _ (by rfl) hr5.out Try.underlying76 rfl (by kernel_rfl)) rfl ?_
    exact ⟨_, [], p, true, rfl, ⟨Own.nil _ _, Byt.nil, Fr.nil _⟩, Rdg.badU hp, B3.trans (grown_below hg5 B3.size (fun k hk => by cases hk; exact hkl))⟩
  | false =>
    rcases HQ.out with ⟨he, hn⟩ | ⟨he, q, hq, hq2, hn⟩
    · subst he
      have HNN := (show Hid (_) from hn)
      clear hn HQ
      go_wp2_with (refine wl_store rfl _ _ _ rfl kb [.slice ab l.length cb, .int .i64 (p : Int), .bool true] rfl rfl _ _ s3 rfl (by kernel_rfl) one_inU ?_; intro w5 hr5 hg5)
      refine bodyPost_ret (results_ctU rfl _ _ kb _ _ (0, 0) _ (by rfl) hr5.out Try.underlying76 rfl (by kernel_rfl)) rfl ?_
      exact ⟨_, [], p, true, rfl, ⟨Own.nil _ _, Byt.nil, Fr.nil _⟩, Rdg.no HNN.out hp, B3.trans (grown_below hg5 B3.size (fun k hk => by cases hk; exact hkl))⟩
    · subst he
      subst hq
      have HNN := (show Hid (_) from hn)
      clear hn HQ
      go_wp2_with (refine wl_store rfl _ _ _ rfl kb [.slice ab l.length cb, .int .i64 (q : Int), .bool false] rfl rfl _ _ s3 rfl (by kernel_rfl) one_inU ?_; intro w5 hr5 hg5)
      refine bodyPost_ret (results_ctU rfl _ _ kb _ _ (0, 0) _ (by rfl) hr5.out Try.underlying76 rfl (by kernel_rfl)) rfl ?_
      exact ⟨_, t, q, false, rfl, (OT.gr ⟨ho3, hby, fun k hk => Nat.le_trans hB.size (hf3 k hk)⟩ s3 (by decide) hg5), Rdg.ok HNN.out hq2, B3.trans (grown_below hg5 B3.size (fun k hk => by cases hk; exact hkl))⟩
end Go.Proofs.Ytejkkhlblnepeaa
end

section
set_option linter.unusedVariables false
set_option linter.unusedSimpArgs false
namespace Go.Proofs.Ytejkkhlblnepeaa
open Go.RowKit Oct Kvl

theorem Kvl.Rdg.stop {α : Type} {c : Cdc α} {l : List Int} {p p1 : Nat} {b b1 : Bool} {q N : Nat} {xs : List α} (h : Rdg (rdN c q) l p b xs p1 b1) (hq : q ≤ N) (he : q = N ∨ b1 = true) : Rdg (rdN c N) l p b xs p1 b1 := by
  rcases he with rfl | rfl
  · exact h
  · exact ⟨h.1, fun e => (by cases e), fun e1 _ => rdN_none (h.2.2 e1 rfl) N hq⟩

set_option maxRecDepth 10000 in
set_option maxHeartbeats 16000000 in
/-- catenaryref10.Decode. -/
theorem refDecodeU (w : World) (bv : Value) (l : List Int) (h : Rd w bv l) (hl : l.length ≤ 140737488355300) :
    Calls Try.prog 13 #[bv] w (DcP w l) := by
  have le := Nat.le_refl w.heap.size
  obtain ⟨ab, cb, rfl, hcb⟩ := h.2.form
  rw [bc_len] at h ⊢
  have HRD := (show Hid (∀ u, Below w.heap.size w u → Rd u (.slice ab l.length cb) l) from fun u hu => h.below hu)
  have HDC := (show Hid (∀ b, rdA (cAp 64 64 2147483647 2147483647 2147483647) l = b → decA l = b) from fun b hb => by rw [← hb]; exact (decA_any (by omega) (by omega) (by omega) (by omega) (by omega) h.1).symm)
  obtain ⟨w0, hw0⟩ : ∃ w0, w0 = (w.alloc (.cells #[.int .i64 0, .slice none 0 0, .slice none 0 0, .slice none 0 0] 27)).alloc (.cells #[.int .i64 0, .slice none 0 0, .slice none 0 0, .slice none 0 0] 27) := ⟨_, rfl⟩
  have s0 : Row w0 w.heap.size 27 [.int .i64 0, .slice none 0 0, .slice none 0 0, .slice none 0 0] := by rw [hw0]; exact rowA (Row.new w 27 _) _
  have a0 : Row w0 (w.heap.size + 1) 27 [.int .i64 0, .slice none 0 0, .slice none 0 0, .slice none 0 0] := by
    rw [hw0]
    have := Row.new (w.alloc (.cells #[.int .i64 0, .slice none 0 0, .slice none 0 0, .slice none 0 0] 27)) 27 [.int .i64 0, .slice none 0 0, .slice none 0 0, .slice none 0 0]
    simpa using this
  have B0 : Below w.heap.size w w0 := by rw [hw0]; exact below_and (below_alloc _ _) le (below_alloc _ _)
  go_enter Try.func13, Try.ntmps13
  go_upto_region 2 with fail
  rw [← hw0]
  clear hw0
  obtain ⟨kb, hkb⟩ : ∃ kb, kb = w.heap.size + 1 := ⟨_, rfl⟩
  obtain ⟨sb, hsb⟩ : ∃ sb, sb = w.heap.size := ⟨_, rfl⟩
  rw [← hkb] at a0 ⊢
  have s0 : Row w0 sb 27 [.int .i64 0, .slice none 0 0, .slice none 0 0, .slice none 0 0] := by rw [hsb]; exact s0
  rw [← hsb]
  have HSB := (show Hid (w.heap.size ≤ sb ∧ w.heap.size ≤ kb ∧ sb ≠ kb) by show _ ∧ _ ∧ _; omega)
  clear hkb hsb
  have hC := refNumR w0 ab cb l 0 false (HRD.out w0 B0) (Nat.zero_le _) hl
  go_upto_region 3 with (go_at_call 34; refine hC.mono ?_; rintro e w1 ⟨n0, p0, b0, rfl, hn0, rg0, hb1⟩)
  obtain ⟨w2, hw2⟩ : ∃ w2, w2 = w1.alloc (.cells #[.slice ab l.length cb, .int .i64 p0, .bool b0] 76) := ⟨_, rfl⟩
  have x2 : Row w2 w1.heap.size 76 [.slice ab l.length cb, .int .i64 p0, .bool b0] := by rw [hw2]; exact Row.new w1 76 _
  have hb2 : Below w1.heap.size w1 w2 := by rw [hw2]; exact below_alloc _ _
  rw [← hw2]
  have hb02 := below_and hb1 (Nat.le_refl _) hb2
  have a2 := a0.below hb02
  have s2 := s0.below hb02
  have B2 := below_and B0 le hb02
  obtain ⟨xb, hxb⟩ : ∃ xb, xb = w1.heap.size := ⟨_, rfl⟩
  rw [← hxb] at x2 ⊢
  have HXB := (show Hid (w.heap.size ≤ xb) by show _ ≤ _; rw [hxb]; have := B0.size; have := hb1.size; omega)
  clear hw2 hxb hb1 hb2 hb02 hC a0 s0 B0
  have nak : kb ≠ xb := a2.apart x2 (by decide)
  have nsx : sb ≠ xb := s2.apart x2 (by decide)
  go_upto_region 4 with (refine wl_set rfl _ _ _ rfl kb 0 _ rfl rfl _ _ a2 (show 0 < 4 by decide) (by kernel_rfl) rfl ?_; intro w3 hr3 hg3)
  have a3 : Row w3 kb 27 [.int .i64 n0, .slice none 0 0, .slice none 0 0, .slice none 0 0] := hr3.out
  have x3 := x2.grown hg3 (fun e => nak (by injection e))
  have s3 := s2.grown hg3 (fun e => HSB.out.2.2 (by injection e with e; exact e.symm))
  have B3 : Below w.heap.size w w3 := B2.trans (grown_below hg3 B2.size (fun k hk => by cases hk; exact HSB.out.2.1))
  clear a2 x2 s2 B2 hr3 hg3
  have hC := refNumR w3 ab cb l p0 b0 (HRD.out w3 B3) rg0.1 hl
  go_upto_region 5 with (first
    | (refine wl_load rfl _ _ rfl xb rfl _ _ x3 _ Try.underlying76 rfl (by kernel_rfl) ?_)
    | (go_at_call 34; refine hC.mono ?_; rintro e wn ⟨m1, p1, b1, rfl, hm1, rg1, hbn⟩; have xn := x3.below hbn)
    | (refine wl_store rfl _ _ _ rfl xb [.slice ab l.length cb, .int .i64 (p1 : Int), .bool b1] rfl rfl _ _ xn rfl (by kernel_rfl) one_inU ?_; intro wB1 hrn hgn))
  have xB : Row wB1 xb 76 [.slice ab l.length cb, .int .i64 (p1 : Int), .bool b1] := hrn.out
  have aB := (a3.below hbn).grown hgn (fun e => nak (by injection e with e; exact e.symm))
  have sB := (s3.below hbn).grown hgn (fun e => nsx (by injection e with e; exact e.symm))
  have BB : Below w.heap.size w wB1 := (below_and B3 le hbn).trans (grown_below hgn (Nat.le_trans B3.size hbn.size) (fun k hk => by cases hk; exact HXB.out))
  obtain ⟨N1, rfl⟩ := Int.eq_ofNat_of_zero_le hm1.1
  have hN1 : (N1 : Int) ≤ 2147483647 := hm1.2
  clear hC hbn hgn hrn xn a3 x3 s3 B3 hm1 
  go_wp2_with fail
  go_loopw [8] (fun i wr => ∃ (q : Nat) (ys : List PEnt) (v : Value) (p' : Nat) (bad' : Bool), q ≤ N1 ∧ i = .int .i64 q ∧ LB OEnt 54 2 wB1.heap.size wr v ys ∧ ys.length = q ∧ Rdg (rdN (cEn 64 64) q) l p1 b1 ys p' bad' ∧ Row wr xb 76 [.slice ab l.length cb, .int .i64 (p' : Int), .bool bad'] ∧ Row wr kb 27 [.int .i64 n0, v, .slice none 0 0, .slice none 0 0] ∧ Chg kb xb wB1 wr) (fun i _ => N1 - (intOf i).toNat)
  case atStart => exact ⟨0, [], .slice none 0 0, p1, b1, Nat.zero_le _, rfl, LB.nil _ _ _ _ _, rfl, Rdg.nil rg1.1, xB, aB, Chg.below (Below.refl _ _)⟩
  case round =>
    have hlx := xB.lt
    have hla := aB.lt
    clear xB aB
    obtain ⟨q, ys, v, pq, bq, hq, rfl, hLB, hys, rgq, xr, ar, hcr⟩ := hrel
    obtain ⟨av, cv, hvf⟩ := hLB.fm mov_oent
    subst hvf
    have Br : Below w.heap.size w wr := BB.trans (hcr.bel BB.size HSB.out.2.1 HXB.out)
    by_cases hgo : q < N1 ∧ bq = false
    · obtain ⟨hql, hbf⟩ := hgo
      subst hbf
      have hqi : (q : Int) < (N1 : Int) := by omega
      have kx := xr.cell (j := 2) rfl
      have hbd : (ys.length + 1) * 48 ≤ 140737488355328 := by omega
      have HYS := (show Hid (ys.length = q) from hys)
      have hsz := hcr.size
      have hlt := hLB.lt
      have hfr := hLB.fr
      have hwl := xr.lt
      clear hys
      have hC := refGetR wr ab cb l pq false (HRD.out wr Br) rgq.1 hl
      go_upto_region 9 with (first
        | (refine wl_load rfl _ _ rfl xb rfl _ _ xr _ Try.underlying76 rfl (by kernel_rfl) ?_)
        | (go_at_call 35; refine hC.mono ?_; rintro e wa0 ⟨tv0, t0, pp0, bb0, rfl, ot0, rgx0, hba0⟩; obtain ⟨az0, cz0, hvz0, _⟩ := ot0.rt.form; subst hvz0))
      obtain ⟨wb0, hwwb0⟩ : ∃ z, z = wa0.alloc (.cells #[.slice ab l.length cb, .int .i64 pp0, .bool bb0] 76) := ⟨_, rfl⟩
      have z0 : Row wb0 wa0.heap.size 76 [.slice ab l.length cb, .int .i64 pp0, .bool bb0] := by rw [hwwb0]; exact Row.new wa0 76 _
      have hn0 : Below wa0.heap.size wa0 wb0 := by rw [hwwb0]; exact below_alloc _ _
      rw [← hwwb0]
      obtain ⟨kz0, hkz0⟩ : ∃ k, k = wa0.heap.size := ⟨_, rfl⟩
      rw [← hkz0] at z0 ⊢
      have hab0 := below_and hba0 (Nat.le_refl _) hn0
      have hbb0 : Below wr.heap.size wr wb0 := hab0
      have ot0' := (ot0.mv (Mv.belowG hn0)).mv (Mv.weak (Nat.le_refl _ : wr.heap.size ≤ wr.heap.size))
      clear hwwb0 hkz0 hn0 hba0 hC
      have hC := refGetR wb0 ab cb l pp0 bb0 (HRD.out wb0 (below_and Br le hbb0)) rgx0.1 hl
      go_upto_region 10 with (first
        | (refine wl_load rfl _ _ rfl kz0 rfl _ _ z0 _ Try.underlying76 rfl (by kernel_rfl) ?_)
        | (go_at_call 35; refine hC.mono ?_; rintro e wa1 ⟨tv1, t1, pp1, bb1, rfl, ot1, rgx1, hba1⟩; obtain ⟨az1, cz1, hvz1, _⟩ := ot1.rt.form; subst hvz1))
      obtain ⟨wb1, hwwb1⟩ : ∃ z, z = wa1.alloc (.cells #[.slice ab l.length cb, .int .i64 pp1, .bool bb1] 76) := ⟨_, rfl⟩
      have z1 : Row wb1 wa1.heap.size 76 [.slice ab l.length cb, .int .i64 pp1, .bool bb1] := by rw [hwwb1]; exact Row.new wa1 76 _
      have hn1 : Below wa1.heap.size wa1 wb1 := by rw [hwwb1]; exact below_alloc _ _
      rw [← hwwb1]
      obtain ⟨kz1, hkz1⟩ : ∃ k, k = wa1.heap.size := ⟨_, rfl⟩
      rw [← hkz1] at z1 ⊢
      have KZ1 : wr.heap.size ≤ kz1 := by rw [hkz1]; exact Nat.le_trans hbb0.size hba1.size
      have hab1 := below_and hba1 (Nat.le_refl _) hn1
      have hbb1 : Below wr.heap.size wr wb1 := below_and hbb0 (Nat.le_refl _) hab1
      have ot0'_1 := ot0'.mv (Mv.belowG hab1)
      have ot1' := (ot1.mv (Mv.belowG hn1)).mv (Mv.weak (hbb0.size : wr.heap.size ≤ wb0.heap.size))
      clear hwwb1 hkz1 hn1 hba1 hC
      clear z0 hab0
      have HKZ := (show Hid (wr.heap.size ≤ kz1) by show _ ≤ _; exact KZ1)
      have hrec : OEnt (From wr.heap.size) wb1 [.slice az0 t0.length cz0, .slice az1 t1.length cz1] ((t0, t1)) := ⟨_, _, rfl, ot0'_1, ot1'⟩
      have hrl := len10OEnt hrec
      have hLBn := hLB.below mov_oent hbb1
      have arn := ar.below hbb1
      have xrn := xr.below hbb1
      have ka := arn.cell (j := 1) rfl
      have hown : (Value.slice av ys.length cv).ownBlock ≠ some kb := fun e => by have := hfr _ e; omega
      have hown2 : (Value.slice av ys.length cv).ownBlock ≠ some xb := fun e => by have := hfr _ e; omega
      have hown3 : (Value.slice av ys.length cv).ownBlock ≠ some kz1 := fun e => by have := hlt _ e; have := HKZ.out; omega
      have NKZ := (show Hid (kz1 ≠ kb) by show _ ≠ _; have := HKZ.out; omega)
      clear kx hLB ar xr
      go_upto_region 11 with (first
        | (at_builtin; refine wl_push mov_oent rfl _ _ _ rfl 54 2 48 _ Try.underlying23 Try.inf10OEnt rfl (by decide) wB1.heap.size (.slice av ys.length cv) ys rfl hLBn [.slice az0 t0.length cz0, .slice az1 t1.length cz1] ((t0, t1)) wr.heap.size hrec hrl.1 hrl.2 hsz hlt rfl (Nat.le_trans hsz hbb1.size) hbd (by decide) ?_; intro v7 w7 hLB7 hg7; have ar7 := arn.grown hg7 hown; have xr7 := xrn.grown hg7 hown2; have z7 := z1.grown hg7 hown3; obtain ⟨a7, c7, hv7⟩ := hLB7.fm mov_oent; rw [List.length_append, List.length_singleton] at hv7; subst hv7)
        | (refine wl_set rfl _ _ _ rfl kb 1 _ rfl rfl _ _ ar7 (show 1 < 4 by decide) (by kernel_rfl) rfl ?_; intro w8 hr8 hg8))
      have hLB8 := hLB7.grown mov_oent hg8 hla
      have xr8 := xr7.grown hg8 (fun e => nak (by injection e))
      have z8 := z7.grown hg8 (fun e => NKZ.out (by injection e with e; exact e.symm))
      have hc7 : Chg kb xb wB1 w7 := (hcr.trans (Chg.below hbb1)).grown hg7 (fun g hg => hfr g hg)
      have hc8 : Chg kb xb wB1 w8 := hc7.trans (Chg.set3 hg8)
      clear hLB7 xr7 z7 ar7 hg7 hg8 hc7 hLBn arn xrn ka
      go_wp2_with (first
        | (refine wl_load rfl _ _ rfl kz1 rfl _ _ z8 _ Try.underlying76 rfl (by kernel_rfl) ?_)
        | (refine wl_store rfl _ _ _ rfl xb [.slice ab l.length cb, .int .i64 (pp1 : Int), .bool bb1] rfl rfl _ _ xr8 rfl (by kernel_rfl) one_inU ?_; intro w9 hr9 hg9))
      have ar8 : Row w8 kb 27 [.int .i64 n0, .slice a7 (ys.length + 1) c7, .slice none 0 0, .slice none 0 0] := hr8.out
      have ar9 := ar8.grown hg9 (fun e => nak (by injection e with e; exact e.symm))
      go_roundw
      case rel => exact ⟨q + 1, ys ++ [(t0, t1)], _, pp1, bb1, by omega, by go_num, hLB8.grown mov_oent hg9 hlx, by rw [List.length_append, HYS.out]; rfl, rgq.snoc (rgx0.pair rgx1), hr9.out, ar9, hc8.trans (Chg.set4 hg9)⟩
      case measure => simp [intOf]; omega
    · have hstop : q = N1 ∨ bq = true := by
        by_cases hh : q < N1
        · right
          cases bq with
          | true => rfl
          | false => exact absurd ⟨hh, rfl⟩ hgo
        · left; omega
      have rgL1 : Rdg (cLm 2147483647 (cEn 64 64)).rd l p0 b0 ys pq bq := Rdg.list (rg1.most (by omega)) (by rw [Int.toNat_natCast]; exact rgq.stop hq hstop)
      have kx := xr.cell (j := 2) rfl
      go_upto_region 6 with fail
      go_cut [50] from 43 to 71 (fun sz wx => sz = .bool false ∧ wx = wr)
      case first =>
        by_cases hh : q < N1
        · have hbt : bq = true := by
            rcases hstop with h | h
            · omega
            · exact h
          subst hbt
          have hqi : (q : Int) < (N1 : Int) := by omega
          clear hstop rgL1 rgq hgo
          go_wp2_with fail
          go_meet
          case rel => exact ⟨rfl, rfl⟩
        · have hqd : decide ((q : Int) < N1) = false := by simp; omega
          clear hstop rgL1 rgq hgo
          go_wp2_with fail
          go_meet
          case rel => exact ⟨rfl, rfl⟩
      case rest =>
        obtain ⟨rfl, hww⟩ := hcut
        subst hww
        obtain ⟨wE1, rfl⟩ : ∃ z, z = wc := ⟨_, rfl⟩
        have sr := hcr.row sB HSB.out.2.2 nsx
        have hk1 := hLB
        have HLhk1 := (show Hid (kb < wB1.heap.size ∧ xb < wB1.heap.size) from ⟨hla, hlx⟩)
        have sz1 : w.heap.size ≤ wB1.heap.size := BB.size
        clear hLB hstop rgq kx hgo hcr sB BB 
        clear hys
        obtain ⟨ys1, rfl⟩ : ∃ z, z = ys := ⟨_, rfl⟩
        obtain ⟨a1, rfl⟩ : ∃ z, z = av := ⟨_, rfl⟩
        obtain ⟨c1, rfl⟩ : ∃ z, z = cv := ⟨_, rfl⟩
        obtain ⟨pe1, rfl⟩ : ∃ z, z = pq := ⟨_, rfl⟩
        obtain ⟨be1, rfl⟩ : ∃ z, z = bq := ⟨_, rfl⟩
        have hC := refNumR wE1 ab cb l pe1 be1 (HRD.out wE1 Br) rgL1.1 hl
        go_upto_region 13 with (first
          | (refine wl_load rfl _ _ rfl xb rfl _ _ xr _ Try.underlying76 rfl (by kernel_rfl) ?_)
          | (go_at_call 34; refine hC.mono ?_; rintro e wn ⟨m2, p2, b2, rfl, hm2, rg2, hbn⟩; have xn := xr.below hbn)
          | (refine wl_store rfl _ _ _ rfl xb [.slice ab l.length cb, .int .i64 (p2 : Int), .bool b2] rfl rfl _ _ xn rfl (by kernel_rfl) one_inU ?_; intro wB2 hrn hgn))
        have xB : Row wB2 xb 76 [.slice ab l.length cb, .int .i64 (p2 : Int), .bool b2] := hrn.out
        have aB := (ar.below hbn).grown hgn (fun e => nak (by injection e with e; exact e.symm))
        have sB := (sr.below hbn).grown hgn (fun e => nsx (by injection e with e; exact e.symm))
        have BB : Below w.heap.size w wB2 := (below_and Br le hbn).trans (grown_below hgn (Nat.le_trans Br.size hbn.size) (fun k hk => by cases hk; exact HXB.out))
        have hk1b := (hk1.below mov_oent hbn).grown mov_oent hgn (Nat.lt_of_lt_of_le HLhk1.out.2 (Nat.le_refl _))
        obtain ⟨N2, rfl⟩ := Int.eq_ofNat_of_zero_le hm2.1
        have hN2 : (N2 : Int) ≤ 2147483647 := hm2.2
        clear hC hbn hgn hrn xn ar xr sr Br hm2 hk1
        go_wp2_with fail
        go_loopw [13] (fun i wr => ∃ (q : Nat) (ys : List PEnt) (v : Value) (p' : Nat) (bad' : Bool), q ≤ N2 ∧ i = .int .i64 q ∧ LB OLea 56 3 wB2.heap.size wr v ys ∧ ys.length = q ∧ Rdg (rdN (cLe 64) q) l p2 b2 ys p' bad' ∧ Row wr xb 76 [.slice ab l.length cb, .int .i64 (p' : Int), .bool bad'] ∧ Row wr kb 27 [.int .i64 n0, .slice a1 ys1.length c1, v, .slice none 0 0] ∧ Chg kb xb wB2 wr) (fun i _ => N2 - (intOf i).toNat)
        case atStart => exact ⟨0, [], .slice none 0 0, p2, b2, Nat.zero_le _, rfl, LB.nil _ _ _ _ _, rfl, Rdg.nil rg2.1, xB, aB, Chg.below (Below.refl _ _)⟩
        case round =>
          have hlx := xB.lt
          have hla := aB.lt
          clear xB aB
          obtain ⟨q, ys, v, pq, bq, hq, rfl, hLB, hys, rgq, xr, ar, hcr⟩ := hrel
          obtain ⟨av, cv, hvf⟩ := hLB.fm mov_olea
          subst hvf
          have Br : Below w.heap.size w wr := BB.trans (hcr.bel BB.size HSB.out.2.1 HXB.out)
          by_cases hgo : q < N2 ∧ bq = false
          · obtain ⟨hql, hbf⟩ := hgo
            subst hbf
            have hqi : (q : Int) < (N2 : Int) := by omega
            have kx := xr.cell (j := 2) rfl
            have hbd : (ys.length + 1) * 40 ≤ 140737488355328 := by omega
            have HYS := (show Hid (ys.length = q) from hys)
            have hsz := hcr.size
            have hlt := hLB.lt
            have hfr := hLB.fr
            have hwl := xr.lt
            clear hys
            have hC := refGetR wr ab cb l pq false (HRD.out wr Br) rgq.1 hl
            go_upto_region 17 with (first
              | (refine wl_load rfl _ _ rfl xb rfl _ _ xr _ Try.underlying76 rfl (by kernel_rfl) ?_)
              | (go_at_call 35; refine hC.mono ?_; rintro e wa0 ⟨tv0, t0, pp0, bb0, rfl, ot0, rgx0, hba0⟩; obtain ⟨az0, cz0, hvz0, _⟩ := ot0.rt.form; subst hvz0))
            obtain ⟨wb0, hwwb0⟩ : ∃ z, z = wa0.alloc (.cells #[.slice ab l.length cb, .int .i64 pp0, .bool bb0] 76) := ⟨_, rfl⟩
            have z0 : Row wb0 wa0.heap.size 76 [.slice ab l.length cb, .int .i64 pp0, .bool bb0] := by rw [hwwb0]; exact Row.new wa0 76 _
            have hn0 : Below wa0.heap.size wa0 wb0 := by rw [hwwb0]; exact below_alloc _ _
            rw [← hwwb0]
            obtain ⟨kz0, hkz0⟩ : ∃ k, k = wa0.heap.size := ⟨_, rfl⟩
            rw [← hkz0] at z0 ⊢
            have hab0 := below_and hba0 (Nat.le_refl _) hn0
            have hbb0 : Below wr.heap.size wr wb0 := hab0
            have ot0' := (ot0.mv (Mv.belowG hn0)).mv (Mv.weak (Nat.le_refl _ : wr.heap.size ≤ wr.heap.size))
            clear hwwb0 hkz0 hn0 hba0 hC
            have hC := refNumR wb0 ab cb l pp0 bb0 (HRD.out wb0 (below_and Br le hbb0)) rgx0.1 hl
            go_upto_region 18 with (first
              | (refine wl_load rfl _ _ rfl kz0 rfl _ _ z0 _ Try.underlying76 rfl (by kernel_rfl) ?_)
              | (go_at_call 34; refine hC.mono ?_; rintro e wa1 ⟨t1, pp1, bb1, rfl, hnn1, rgx1, hba1⟩))
            obtain ⟨wb1, hwwb1⟩ : ∃ z, z = wa1.alloc (.cells #[.slice ab l.length cb, .int .i64 pp1, .bool bb1] 76) := ⟨_, rfl⟩
            have z1 : Row wb1 wa1.heap.size 76 [.slice ab l.length cb, .int .i64 pp1, .bool bb1] := by rw [hwwb1]; exact Row.new wa1 76 _
            have hn1 : Below wa1.heap.size wa1 wb1 := by rw [hwwb1]; exact below_alloc _ _
            rw [← hwwb1]
            obtain ⟨kz1, hkz1⟩ : ∃ k, k = wa1.heap.size := ⟨_, rfl⟩
            rw [← hkz1] at z1 ⊢
            have hab1 := below_and hba1 (Nat.le_refl _) hn1
            have hbb1 : Below wr.heap.size wr wb1 := below_and hbb0 (Nat.le_refl _) hab1
            have ot0'_1 := ot0'.mv (Mv.belowG hab1)
            clear hwwb1 hkz1 hn1 hba1 hC
            clear z0 hab0
            have hC := refNumR wb1 ab cb l pp1 bb1 (HRD.out wb1 (below_and Br le hbb1)) rgx1.1 hl
            go_upto_region 19 with (first
              | (refine wl_load rfl _ _ rfl kz1 rfl _ _ z1 _ Try.underlying76 rfl (by kernel_rfl) ?_)
              | (go_at_call 34; refine hC.mono ?_; rintro e wa2 ⟨t2, pp2, bb2, rfl, hnn2, rgx2, hba2⟩))
            obtain ⟨wb2, hwwb2⟩ : ∃ z, z = wa2.alloc (.cells #[.slice ab l.length cb, .int .i64 pp2, .bool bb2] 76) := ⟨_, rfl⟩
            have z2 : Row wb2 wa2.heap.size 76 [.slice ab l.length cb, .int .i64 pp2, .bool bb2] := by rw [hwwb2]; exact Row.new wa2 76 _
            have hn2 : Below wa2.heap.size wa2 wb2 := by rw [hwwb2]; exact below_alloc _ _
            rw [← hwwb2]
            obtain ⟨kz2, hkz2⟩ : ∃ k, k = wa2.heap.size := ⟨_, rfl⟩
            rw [← hkz2] at z2 ⊢
            have KZ2 : wr.heap.size ≤ kz2 := by rw [hkz2]; exact Nat.le_trans hbb1.size hba2.size
            have hab2 := below_and hba2 (Nat.le_refl _) hn2
            have hbb2 : Below wr.heap.size wr wb2 := below_and hbb1 (Nat.le_refl _) hab2
            have ot0'_1_2 := ot0'_1.mv (Mv.belowG hab2)
            clear hwwb2 hkz2 hn2 hba2 hC
            clear z1 hab1
            have HKZ := (show Hid (wr.heap.size ≤ kz2) by show _ ≤ _; exact KZ2)
            have hrec : OLea (From wr.heap.size) wb2 [.slice az0 t0.length cz0, .int .i64 t1, .int .i64 t2] (fLe (t0, t1, t2)) := ⟨_, _, _, rfl, ot0'_1_2, rfl⟩
            have hrl := len10OLea hrec
            have hLBn := hLB.below mov_olea hbb2
            have arn := ar.below hbb2
            have xrn := xr.below hbb2
            have ka := arn.cell (j := 2) rfl
            have hown : (Value.slice av ys.length cv).ownBlock ≠ some kb := fun e => by have := hfr _ e; omega
            have hown2 : (Value.slice av ys.length cv).ownBlock ≠ some xb := fun e => by have := hfr _ e; omega
            have hown3 : (Value.slice av ys.length cv).ownBlock ≠ some kz2 := fun e => by have := hlt _ e; have := HKZ.out; omega
            have NKZ := (show Hid (kz2 ≠ kb) by show _ ≠ _; have := HKZ.out; omega)
            clear kx hLB ar xr
            go_upto_region 20 with (first
              | (at_builtin; refine wl_push mov_olea rfl _ _ _ rfl 56 3 40 _ Try.underlying24 Try.inf10OLea rfl (by decide) wB2.heap.size (.slice av ys.length cv) ys rfl hLBn [.slice az0 t0.length cz0, .int .i64 t1, .int .i64 t2] (fLe (t0, t1, t2)) wr.heap.size hrec hrl.1 hrl.2 hsz hlt rfl (Nat.le_trans hsz hbb2.size) hbd (by decide) ?_; intro v7 w7 hLB7 hg7; have ar7 := arn.grown hg7 hown; have xr7 := xrn.grown hg7 hown2; have z7 := z2.grown hg7 hown3; obtain ⟨a7, c7, hv7⟩ := hLB7.fm mov_olea; rw [List.length_append, List.length_singleton] at hv7; subst hv7)
              | (refine wl_set rfl _ _ _ rfl kb 2 _ rfl rfl _ _ ar7 (show 2 < 4 by decide) (by kernel_rfl) rfl ?_; intro w8 hr8 hg8))
            have hLB8 := hLB7.grown mov_olea hg8 hla
            have xr8 := xr7.grown hg8 (fun e => nak (by injection e))
            have z8 := z7.grown hg8 (fun e => NKZ.out (by injection e with e; exact e.symm))
            have hc7 : Chg kb xb wB2 w7 := (hcr.trans (Chg.below hbb2)).grown hg7 (fun g hg => hfr g hg)
            have hc8 : Chg kb xb wB2 w8 := hc7.trans (Chg.set3 hg8)
            clear hLB7 xr7 z7 ar7 hg7 hg8 hc7 hLBn arn xrn ka
            go_wp2_with (first
              | (refine wl_load rfl _ _ rfl kz2 rfl _ _ z8 _ Try.underlying76 rfl (by kernel_rfl) ?_)
              | (refine wl_store rfl _ _ _ rfl xb [.slice ab l.length cb, .int .i64 (pp2 : Int), .bool bb2] rfl rfl _ _ xr8 rfl (by kernel_rfl) one_inU ?_; intro w9 hr9 hg9))
            have ar8 : Row w8 kb 27 [.int .i64 n0, .slice a1 ys1.length c1, .slice a7 (ys.length + 1) c7, .slice none 0 0] := hr8.out
            have ar9 := ar8.grown hg9 (fun e => nak (by injection e with e; exact e.symm))
            go_roundw
            case rel => exact ⟨q + 1, ys ++ [fLe (t0, t1, t2)], _, pp2, bb2, by omega, by go_num, hLB8.grown mov_olea hg9 hlx, by rw [List.length_append, HYS.out]; rfl, rgq.snoc ((rgx0.pair (rgx1.pair rgx2)).view fLe gLe), hr9.out, ar9, hc8.trans (Chg.set4 hg9)⟩
            case measure => simp [intOf]; omega
          · have hstop : q = N2 ∨ bq = true := by
              by_cases hh : q < N2
              · right
                cases bq with
                | true => rfl
                | false => exact absurd ⟨hh, rfl⟩ hgo
              · left; omega
            have rgL2 : Rdg (cLm 2147483647 (cLe 64)).rd l pe1 be1 ys pq bq := Rdg.list (rg2.most (by omega)) (by rw [Int.toNat_natCast]; exact rgq.stop hq hstop)
            have kx := xr.cell (j := 2) rfl
            go_upto_region 14 with fail
            go_cut [84] from 77 to 111 (fun sz wx => sz = .bool false ∧ wx = wr)
            case first =>
              by_cases hh : q < N2
              · have hbt : bq = true := by
                  rcases hstop with h | h
                  · omega
                  · exact h
                subst hbt
                have hqi : (q : Int) < (N2 : Int) := by omega
                clear hstop rgL2 rgq hgo
                go_wp2_with fail
                go_meet
                case rel => exact ⟨rfl, rfl⟩
              · have hqd : decide ((q : Int) < N2) = false := by simp; omega
                clear hstop rgL2 rgq hgo
                go_wp2_with fail
                go_meet
                case rel => exact ⟨rfl, rfl⟩
            case rest =>
              obtain ⟨rfl, hww⟩ := hcut
              subst hww
              obtain ⟨wE2, rfl⟩ : ∃ z, z = wc := ⟨_, rfl⟩
              have sr := hcr.row sB HSB.out.2.2 nsx
              have hk1x2 := hk1b.chg mov_oent hcr HLhk1.out.1 HLhk1.out.2
              have HLhk1x2 := HLhk1
              have hk2 := hLB
              have HLhk2 := (show Hid (kb < wB2.heap.size ∧ xb < wB2.heap.size) from ⟨hla, hlx⟩)
              have sz2 : w.heap.size ≤ wB2.heap.size := BB.size
              clear hLB hstop rgq kx hgo hcr sB BB hk1b
              clear hys
              obtain ⟨ys2, rfl⟩ : ∃ z, z = ys := ⟨_, rfl⟩
              obtain ⟨a2, rfl⟩ : ∃ z, z = av := ⟨_, rfl⟩
              obtain ⟨c2, rfl⟩ : ∃ z, z = cv := ⟨_, rfl⟩
              obtain ⟨pe2, rfl⟩ : ∃ z, z = pq := ⟨_, rfl⟩
              obtain ⟨be2, rfl⟩ : ∃ z, z = bq := ⟨_, rfl⟩
              have hC := refNumR wE2 ab cb l pe2 be2 (HRD.out wE2 Br) rgL2.1 hl
              go_upto_region 22 with (first
                | (refine wl_load rfl _ _ rfl xb rfl _ _ xr _ Try.underlying76 rfl (by kernel_rfl) ?_)
                | (go_at_call 34; refine hC.mono ?_; rintro e wn ⟨m3, p3, b3, rfl, hm3, rg3, hbn⟩; have xn := xr.below hbn)
                | (refine wl_store rfl _ _ _ rfl xb [.slice ab l.length cb, .int .i64 (p3 : Int), .bool b3] rfl rfl _ _ xn rfl (by kernel_rfl) one_inU ?_; intro wB3 hrn hgn))
              have xB : Row wB3 xb 76 [.slice ab l.length cb, .int .i64 (p3 : Int), .bool b3] := hrn.out
              have aB := (ar.below hbn).grown hgn (fun e => nak (by injection e with e; exact e.symm))
              have sB := (sr.below hbn).grown hgn (fun e => nsx (by injection e with e; exact e.symm))
              have BB : Below w.heap.size w wB3 := (below_and Br le hbn).trans (grown_below hgn (Nat.le_trans Br.size hbn.size) (fun k hk => by cases hk; exact HXB.out))
              have hk1x2b := (hk1x2.below mov_oent hbn).grown mov_oent hgn (Nat.lt_of_lt_of_le HLhk1x2.out.2 (Nat.le_refl _))
              have hk2b := (hk2.below mov_olea hbn).grown mov_olea hgn (Nat.lt_of_lt_of_le HLhk2.out.2 (Nat.le_refl _))
              obtain ⟨N3, rfl⟩ := Int.eq_ofNat_of_zero_le hm3.1
              have hN3 : (N3 : Int) ≤ 2147483647 := hm3.2
              clear hC hbn hgn hrn xn ar xr sr Br hm3 hk1x2 hk2
              go_wp2_with fail
              go_loopw [20] (fun i wr => ∃ (q : Nat) (ys : List PEnt) (v : Value) (p' : Nat) (bad' : Bool), q ≤ N3 ∧ i = .int .i64 q ∧ LB OSes 48 4 wB3.heap.size wr v ys ∧ ys.length = q ∧ Rdg (rdN (cSe 64) q) l p3 b3 ys p' bad' ∧ Row wr xb 76 [.slice ab l.length cb, .int .i64 (p' : Int), .bool bad'] ∧ Row wr kb 27 [.int .i64 n0, .slice a1 ys1.length c1, .slice a2 ys2.length c2, v] ∧ Chg kb xb wB3 wr) (fun i _ => N3 - (intOf i).toNat)
              case atStart => exact ⟨0, [], .slice none 0 0, p3, b3, Nat.zero_le _, rfl, LB.nil _ _ _ _ _, rfl, Rdg.nil rg3.1, xB, aB, Chg.below (Below.refl _ _)⟩
              case round =>
                have hlx := xB.lt
                have hla := aB.lt
                clear xB aB
                obtain ⟨q, ys, v, pq, bq, hq, rfl, hLB, hys, rgq, xr, ar, hcr⟩ := hrel
                obtain ⟨av, cv, hvf⟩ := hLB.fm mov_oses
                subst hvf
                have Br : Below w.heap.size w wr := BB.trans (hcr.bel BB.size HSB.out.2.1 HXB.out)
                by_cases hgo : q < N3 ∧ bq = false
                · obtain ⟨hql, hbf⟩ := hgo
                  subst hbf
                  have hqi : (q : Int) < (N3 : Int) := by omega
                  have kx := xr.cell (j := 2) rfl
                  have hbd : (ys.length + 1) * 48 ≤ 140737488355328 := by omega
                  have HYS := (show Hid (ys.length = q) from hys)
                  have hsz := hcr.size
                  have hlt := hLB.lt
                  have hfr := hLB.fr
                  have hwl := xr.lt
                  clear hys
                  have hC := refNumR wr ab cb l pq false (HRD.out wr Br) rgq.1 hl
                  go_upto_region 26 with (first
                    | (refine wl_load rfl _ _ rfl xb rfl _ _ xr _ Try.underlying76 rfl (by kernel_rfl) ?_)
                    | (go_at_call 34; refine hC.mono ?_; rintro e wa0 ⟨t0, pp0, bb0, rfl, hnn0, rgx0, hba0⟩))
                  obtain ⟨wb0, hwwb0⟩ : ∃ z, z = wa0.alloc (.cells #[.slice ab l.length cb, .int .i64 pp0, .bool bb0] 76) := ⟨_, rfl⟩
                  have z0 : Row wb0 wa0.heap.size 76 [.slice ab l.length cb, .int .i64 pp0, .bool bb0] := by rw [hwwb0]; exact Row.new wa0 76 _
                  have hn0 : Below wa0.heap.size wa0 wb0 := by rw [hwwb0]; exact below_alloc _ _
                  rw [← hwwb0]
                  obtain ⟨kz0, hkz0⟩ : ∃ k, k = wa0.heap.size := ⟨_, rfl⟩
                  rw [← hkz0] at z0 ⊢
                  have hab0 := below_and hba0 (Nat.le_refl _) hn0
                  have hbb0 : Below wr.heap.size wr wb0 := hab0
                  clear hwwb0 hkz0 hn0 hba0 hC
                  have hC := refNumR wb0 ab cb l pp0 bb0 (HRD.out wb0 (below_and Br le hbb0)) rgx0.1 hl
                  go_upto_region 27 with (first
                    | (refine wl_load rfl _ _ rfl kz0 rfl _ _ z0 _ Try.underlying76 rfl (by kernel_rfl) ?_)
                    | (go_at_call 34; refine hC.mono ?_; rintro e wa1 ⟨t1, pp1, bb1, rfl, hnn1, rgx1, hba1⟩))
                  obtain ⟨wb1, hwwb1⟩ : ∃ z, z = wa1.alloc (.cells #[.slice ab l.length cb, .int .i64 pp1, .bool bb1] 76) := ⟨_, rfl⟩
                  have z1 : Row wb1 wa1.heap.size 76 [.slice ab l.length cb, .int .i64 pp1, .bool bb1] := by rw [hwwb1]; exact Row.new wa1 76 _
                  have hn1 : Below wa1.heap.size wa1 wb1 := by rw [hwwb1]; exact below_alloc _ _
                  rw [← hwwb1]
                  obtain ⟨kz1, hkz1⟩ : ∃ k, k = wa1.heap.size := ⟨_, rfl⟩
                  rw [← hkz1] at z1 ⊢
                  have hab1 := below_and hba1 (Nat.le_refl _) hn1
                  have hbb1 : Below wr.heap.size wr wb1 := below_and hbb0 (Nat.le_refl _) hab1
                  clear hwwb1 hkz1 hn1 hba1 hC
                  clear z0 hab0
                  have hC := refNumR wb1 ab cb l pp1 bb1 (HRD.out wb1 (below_and Br le hbb1)) rgx1.1 hl
                  go_upto_region 28 with (first
                    | (refine wl_load rfl _ _ rfl kz1 rfl _ _ z1 _ Try.underlying76 rfl (by kernel_rfl) ?_)
                    | (go_at_call 34; refine hC.mono ?_; rintro e wa2 ⟨t2, pp2, bb2, rfl, hnn2, rgx2, hba2⟩))
                  obtain ⟨wb2, hwwb2⟩ : ∃ z, z = wa2.alloc (.cells #[.slice ab l.length cb, .int .i64 pp2, .bool bb2] 76) := ⟨_, rfl⟩
                  have z2 : Row wb2 wa2.heap.size 76 [.slice ab l.length cb, .int .i64 pp2, .bool bb2] := by rw [hwwb2]; exact Row.new wa2 76 _
                  have hn2 : Below wa2.heap.size wa2 wb2 := by rw [hwwb2]; exact below_alloc _ _
                  rw [← hwwb2]
                  obtain ⟨kz2, hkz2⟩ : ∃ k, k = wa2.heap.size := ⟨_, rfl⟩
                  rw [← hkz2] at z2 ⊢
                  have hab2 := below_and hba2 (Nat.le_refl _) hn2
                  have hbb2 : Below wr.heap.size wr wb2 := below_and hbb1 (Nat.le_refl _) hab2
                  clear hwwb2 hkz2 hn2 hba2 hC
                  clear z1 hab1
                  have hC := refGetR wb2 ab cb l pp2 bb2 (HRD.out wb2 (below_and Br le hbb2)) rgx2.1 hl
                  go_upto_region 29 with (first
                    | (refine wl_load rfl _ _ rfl kz2 rfl _ _ z2 _ Try.underlying76 rfl (by kernel_rfl) ?_)
                    | (go_at_call 35; refine hC.mono ?_; rintro e wa3 ⟨tv3, t3, pp3, bb3, rfl, ot3, rgx3, hba3⟩; obtain ⟨az3, cz3, hvz3, _⟩ := ot3.rt.form; subst hvz3))
                  obtain ⟨wb3, hwwb3⟩ : ∃ z, z = wa3.alloc (.cells #[.slice ab l.length cb, .int .i64 pp3, .bool bb3] 76) := ⟨_, rfl⟩
                  have z3 : Row wb3 wa3.heap.size 76 [.slice ab l.length cb, .int .i64 pp3, .bool bb3] := by rw [hwwb3]; exact Row.new wa3 76 _
                  have hn3 : Below wa3.heap.size wa3 wb3 := by rw [hwwb3]; exact below_alloc _ _
                  rw [← hwwb3]
                  obtain ⟨kz3, hkz3⟩ : ∃ k, k = wa3.heap.size := ⟨_, rfl⟩
                  rw [← hkz3] at z3 ⊢
                  have KZ3 : wr.heap.size ≤ kz3 := by rw [hkz3]; exact Nat.le_trans hbb2.size hba3.size
                  have hab3 := below_and hba3 (Nat.le_refl _) hn3
                  have hbb3 : Below wr.heap.size wr wb3 := below_and hbb2 (Nat.le_refl _) hab3
                  have ot3' := (ot3.mv (Mv.belowG hn3)).mv (Mv.weak (hbb2.size : wr.heap.size ≤ wb2.heap.size))
                  clear hwwb3 hkz3 hn3 hba3 hC
                  clear z2 hab2
                  have HKZ := (show Hid (wr.heap.size ≤ kz3) by show _ ≤ _; exact KZ3)
                  have hrec : OSes (From wr.heap.size) wb3 [.int .i64 t0, .int .i64 t1, .int .i64 t2, .slice az3 t3.length cz3] (fSe (t0, t1, t2, t3)) := ⟨_, _, _, _, _, rfl, ot3', rfl⟩
                  have hrl := len10OSes hrec
                  have hLBn := hLB.below mov_oses hbb3
                  have arn := ar.below hbb3
                  have xrn := xr.below hbb3
                  have ka := arn.cell (j := 3) rfl
                  have hown : (Value.slice av ys.length cv).ownBlock ≠ some kb := fun e => by have := hfr _ e; omega
                  have hown2 : (Value.slice av ys.length cv).ownBlock ≠ some xb := fun e => by have := hfr _ e; omega
                  have hown3 : (Value.slice av ys.length cv).ownBlock ≠ some kz3 := fun e => by have := hlt _ e; have := HKZ.out; omega
                  have NKZ := (show Hid (kz3 ≠ kb) by show _ ≠ _; have := HKZ.out; omega)
                  clear kx hLB ar xr
                  go_upto_region 30 with (first
                    | (at_builtin; refine wl_push mov_oses rfl _ _ _ rfl 48 4 48 _ Try.underlying25 Try.inf10OSes rfl (by decide) wB3.heap.size (.slice av ys.length cv) ys rfl hLBn [.int .i64 t0, .int .i64 t1, .int .i64 t2, .slice az3 t3.length cz3] (fSe (t0, t1, t2, t3)) wr.heap.size hrec hrl.1 hrl.2 hsz hlt rfl (Nat.le_trans hsz hbb3.size) hbd (by decide) ?_; intro v7 w7 hLB7 hg7; have ar7 := arn.grown hg7 hown; have xr7 := xrn.grown hg7 hown2; have z7 := z3.grown hg7 hown3; obtain ⟨a7, c7, hv7⟩ := hLB7.fm mov_oses; rw [List.length_append, List.length_singleton] at hv7; subst hv7)
                    | (refine wl_set rfl _ _ _ rfl kb 3 _ rfl rfl _ _ ar7 (show 3 < 4 by decide) (by kernel_rfl) rfl ?_; intro w8 hr8 hg8))
                  have hLB8 := hLB7.grown mov_oses hg8 hla
                  have xr8 := xr7.grown hg8 (fun e => nak (by injection e))
                  have z8 := z7.grown hg8 (fun e => NKZ.out (by injection e with e; exact e.symm))
                  have hc7 : Chg kb xb wB3 w7 := (hcr.trans (Chg.below hbb3)).grown hg7 (fun g hg => hfr g hg)
                  have hc8 : Chg kb xb wB3 w8 := hc7.trans (Chg.set3 hg8)
                  clear hLB7 xr7 z7 ar7 hg7 hg8 hc7 hLBn arn xrn ka
                  go_wp2_with (first
                    | (refine wl_load rfl _ _ rfl kz3 rfl _ _ z8 _ Try.underlying76 rfl (by kernel_rfl) ?_)
                    | (refine wl_store rfl _ _ _ rfl xb [.slice ab l.length cb, .int .i64 (pp3 : Int), .bool bb3] rfl rfl _ _ xr8 rfl (by kernel_rfl) one_inU ?_; intro w9 hr9 hg9))
                  have ar8 : Row w8 kb 27 [.int .i64 n0, .slice a1 ys1.length c1, .slice a2 ys2.length c2, .slice a7 (ys.length + 1) c7] := hr8.out
                  have ar9 := ar8.grown hg9 (fun e => nak (by injection e with e; exact e.symm))
                  go_roundw
                  case rel => exact ⟨q + 1, ys ++ [fSe (t0, t1, t2, t3)], _, pp3, bb3, by omega, by go_num, hLB8.grown mov_oses hg9 hlx, by rw [List.length_append, HYS.out]; rfl, rgq.snoc ((rgx0.pair (rgx1.pair (rgx2.pair rgx3))).view fSe gSe), hr9.out, ar9, hc8.trans (Chg.set4 hg9)⟩
                  case measure => simp [intOf]; omega
                · have hstop : q = N3 ∨ bq = true := by
                    by_cases hh : q < N3
                    · right
                      cases bq with
                      | true => rfl
                      | false => exact absurd ⟨hh, rfl⟩ hgo
                    · left; omega
                  have rgL3 : Rdg (cLm 2147483647 (cSe 64)).rd l pe2 be2 ys pq bq := Rdg.list (rg3.most (by omega)) (by rw [Int.toNat_natCast]; exact rgq.stop hq hstop)
                  have kx := xr.cell (j := 2) rfl
                  go_upto_region 23 with fail
                  go_cut [124] from 117 to 158 (fun sz wx => sz = .bool false ∧ wx = wr)
                  case first =>
                    by_cases hh : q < N3
                    · have hbt : bq = true := by
                        rcases hstop with h | h
                        · omega
                        · exact h
                      subst hbt
                      have hqi : (q : Int) < (N3 : Int) := by omega
                      clear hstop rgL3 rgq hgo
                      go_wp2_with fail
                      go_meet
                      case rel => exact ⟨rfl, rfl⟩
                    · have hqd : decide ((q : Int) < N3) = false := by simp; omega
                      clear hstop rgL3 rgq hgo
                      go_wp2_with fail
                      go_meet
                      case rel => exact ⟨rfl, rfl⟩
                  case rest =>
                    obtain ⟨rfl, hww⟩ := hcut
                    subst hww
                    obtain ⟨wE3, rfl⟩ : ∃ z, z = wc := ⟨_, rfl⟩
                    have sr := hcr.row sB HSB.out.2.2 nsx
                    have hk1x2x3 := hk1x2b.chg mov_oent hcr HLhk1x2.out.1 HLhk1x2.out.2
                    have HLhk1x2x3 := HLhk1x2
                    have hk2x3 := hk2b.chg mov_olea hcr HLhk2.out.1 HLhk2.out.2
                    have HLhk2x3 := HLhk2
                    have hk3 := hLB
                    have HLhk3 := (show Hid (kb < wB3.heap.size ∧ xb < wB3.heap.size) from ⟨hla, hlx⟩)
                    have sz3 : w.heap.size ≤ wB3.heap.size := BB.size
                    clear hLB hstop rgq kx hgo hcr sB BB hk1x2b hk2b
                    clear hys
                    obtain ⟨ys3, rfl⟩ : ∃ z, z = ys := ⟨_, rfl⟩
                    obtain ⟨a3, rfl⟩ : ∃ z, z = av := ⟨_, rfl⟩
                    obtain ⟨c3, rfl⟩ : ∃ z, z = cv := ⟨_, rfl⟩
                    have hO : OApp w.heap.size wE3 [.int .i64 n0, .slice a1 ys1.length c1, .slice a2 ys2.length c2, .slice a3 ys3.length c3] (n0, ys1, ys2, ys3) := ⟨_, _, _, rfl, hk1x2x3.weak mov_oent sz1, hk2x3.weak mov_olea sz2, hk3.weak mov_oses sz3⟩
                    have rgA : Rdg (cAp 64 64 2147483647 2147483647 2147483647).rd l 0 false (n0, ys1, ys2, ys3) pq bq := rg0.pair (rgL1.pair (rgL2.pair rgL3))
                    have hdec := HDC.out _ rgA.whole
                    have hRt := refRightA_any wE3 _ _ hO.app
                    have hA : dcA l = if (bq = false ∧ pq = l.length) ∧ rgtA (n0, ys1, ys2, ys3) then (n0, ys1, ys2, ys3) else (0, [], [], []) := by unfold dcA; rw [hdec]; split <;> rfl
                    have hX : dcE l = if (bq = false ∧ pq = l.length) ∧ rgtA (n0, ys1, ys2, ys3) then 0 else 101 := by unfold dcE; rw [hdec]; split <;> rfl
                    have HA := (show Hid (∀ er a e w', dcE l = er → dcA l = a → (∃ row, e = Ending.returned (.tuple #[.agg row.toArray, .int .i64 er]) ∧ OApp w.heap.size w' row a ∧ Below w.heap.size w w') → DcP w l e w') from fun er a e w' h1 h2 h3 => by unfold DcP; rw [h1, h2]; exact h3)
                    have hsw := HSB.out.1
                    have kx2 := xr.cell (j := 2) rfl
                    have kx1 := xr.cell (j := 1) rfl
                    clear hdec rgA rg0 rgL1 rgL2 rgL3 hk1x2x3 hk2x3 hk3 rg1 rg2 rg3
                    cases bq with
                    | true =>
                      rw [if_neg (fun hh => by cases hh.1.1)] at hA hX
                      go_wp2_with (refine wl_store rfl _ _ _ rfl sb [.int .i64 0, .slice none 0 0, .slice none 0 0, .slice none 0 0] rfl rfl _ _ sr rfl (by kernel_rfl) (by decide) ?_; intro w21 hr21 hg21)
                      refine bodyPost_ret (results_ctU rfl _ _ sb _ _ (0, 0) _ (by rfl) hr21.out Try.underlying27 rfl (by kernel_rfl)) rfl ?_
                      exact HA.out _ _ _ _ hX hA ⟨_, rfl, OApp.zero _ _, Br.trans (grown_below hg21 Br.size (fun k hk => by cases hk; exact hsw))⟩
                    | false =>
                      by_cases hp : pq = l.length
                      rotate_left
                      · rw [if_neg (fun hh => hp hh.1.2)] at hA hX
                        have hpp : ((pq : Int) != (l.length : Int)) = true := by simp; omega
                        clear hp
                        go_wp2_with (refine wl_store rfl _ _ _ rfl sb [.int .i64 0, .slice none 0 0, .slice none 0 0, .slice none 0 0] rfl rfl _ _ sr rfl (by kernel_rfl) (by decide) ?_; intro w21 hr21 hg21)
                        refine bodyPost_ret (results_ctU rfl _ _ sb _ _ (0, 0) _ (by rfl) hr21.out Try.underlying27 rfl (by kernel_rfl)) rfl ?_
                        exact HA.out _ _ _ _ hX hA ⟨_, rfl, OApp.zero _ _, Br.trans (grown_below hg21 Br.size (fun k hk => by cases hk; exact hsw))⟩
                      have hpp : ((pq : Int) != (l.length : Int)) = false := by simp; omega
                      by_cases hg : rgtA (n0, ys1, ys2, ys3)
                      · rw [decide_eq_true hg] at hRt
                        rw [if_pos ⟨⟨rfl, hp⟩, hg⟩] at hA hX
                        have hone : ∀ x ∈ ([.int .i64 n0, .slice a1 ys1.length c1, .slice a2 ys2.length c2, .slice a3 ys3.length c3] : List Value), x.oneCell' = true := by
                          intro x hx
                          simp only [List.mem_cons, List.not_mem_nil, or_false] at hx
                          rcases hx with rfl | rfl | rfl | rfl <;> rfl
                        clear hp hg
                        go_wp2_with (first
                          | (refine wl_load_w (by rfl) _ _ rfl kb rfl _ _ ar _ Try.underlying27 rfl (by kernel_rfl) ?_)
                          | (go_at_call 21; refine hRt.mono ?_; rintro e w20 ⟨rfl, hb20⟩; have a20 := ar.below hb20; have s20 := sr.below hb20)
                          | (refine wl_load rfl _ _ rfl kb rfl _ _ a20 _ Try.underlying27 rfl (by kernel_rfl) ?_)
                          | (refine wl_store rfl _ _ _ rfl sb [.int .i64 n0, .slice a1 ys1.length c1, .slice a2 ys2.length c2, .slice a3 ys3.length c3] rfl rfl _ _ s20 rfl (by kernel_rfl) hone ?_; intro w21 hr21 hg21))
                        have hO20 := hO.below hb20
                        have B20 := below_and Br le hb20
                        refine bodyPost_ret (results_ctU rfl _ _ sb _ _ (0, 0) _ (by rfl) hr21.out Try.underlying27 rfl (by kernel_rfl)) rfl ?_
                        exact HA.out _ _ _ _ hX hA ⟨_, rfl, hO20.gr hg21 s20, B20.trans (grown_below hg21 B20.size (fun k hk => by cases hk; exact hsw))⟩
                      · rw [decide_eq_false hg] at hRt
                        rw [if_neg (fun hh => hg hh.2)] at hA hX
                        clear hp hg
                        go_wp2_with (first
                          | (refine wl_load_w (by rfl) _ _ rfl kb rfl _ _ ar _ Try.underlying27 rfl (by kernel_rfl) ?_)
                          | (go_at_call 21; refine hRt.mono ?_; rintro e w20 ⟨rfl, hb20⟩; have s20 := sr.below hb20)
                          | (refine wl_store rfl _ _ _ rfl sb [.int .i64 0, .slice none 0 0, .slice none 0 0, .slice none 0 0] rfl rfl _ _ s20 rfl (by kernel_rfl) (by decide) ?_; intro w21 hr21 hg21))
                        have B20 := below_and Br le hb20
                        refine bodyPost_ret (results_ctU rfl _ _ sb _ _ (0, 0) _ (by rfl) hr21.out Try.underlying27 rfl (by kernel_rfl)) rfl ?_
                        exact HA.out _ _ _ _ hX hA ⟨_, rfl, OApp.zero _ _, B20.trans (grown_below hg21 B20.size (fun k hk => by cases hk; exact hsw))⟩
end Go.Proofs.Ytejkkhlblnepeaa
end

section
set_option linter.unusedVariables false
set_option linter.unusedSimpArgs false
namespace Go.Proofs.Ytejkkhlblnepeaa
open Go.RowKit Oct Kvl

theorem xor_rngU {y : Int} (h : 0 ≤ y ∧ y ≤ 255) : 0 ≤ bits .xor .u8 y 255 ∧ bits .xor .u8 y 255 ≤ 255 := by
  rw [u8_xor y 255 h.1 (by omega) (by decide) (by decide)]
  have : y.toNat ^^^ (255 : Int).toNat < 2 ^ 8 := Nat.xor_lt_two_pow (by omega) (by decide)
  omega
theorem Own.at_byteU {w : World} {v : Value} {l : List Int} (h : Own w 5 v (bc l)) {j : Nat} (hj : j < l.length) :
    ∃ (k cap : Nat) (cur : List Value) (y : Int), v = .slice (some ⟨k, 0, none⟩) l.length cap ∧ l.length ≤ cap ∧ cap ≤ maxLen ∧ Row w k 5 cur ∧ j < cur.length ∧ cur[j]? = some (.int .u8 y) ∧ l[j]? = some y ∧
      ∀ (w' : World) (x : Int), Row w' k 5 (cur.set j (.int .u8 x)) → Own w' 5 v (bc (l.set j x)) := by
  obtain ⟨h1, h2⟩ := h
  rcases h2 with ⟨_, h3⟩ | ⟨k, cap, cur, e, h0, hh, n1, n2, n3, n4⟩
  · rw [bc_len] at h3; omega
  · have e' : v = .slice (some ⟨k, 0, none⟩) (bc l).length cap := e
    rw [bc_len] at e'
    have hy : (bc l)[j]? = some (.int .u8 l[j]) := by rw [bc_at, List.getElem?_eq_getElem hj]; rfl
    rw [← n4, List.getElem?_take] at hy
    rw [bc_len] at n1 hy
    split at hy
    · refine ⟨k, cap, cur.toList, l[j], e', by omega, n2, by unfold Row; simpa using hh, (List.getElem?_eq_some_iff.1 hy).1, hy, List.getElem?_eq_getElem hj, fun w' x hr => ?_⟩
      have hbc : bc (l.set j x) = (bc l).set j (.int .u8 x) := by unfold bc; rw [List.map_set]
      have hn : (bc (l.set j x)).length = (bc l).length := by rw [hbc, List.length_set]
      show World.ownsRow _ 0 _ 1 _ (bc (l.set j x)).length _
      rw [hn, hbc]
      refine ⟨by simp, .inr ⟨k, cap, (cur.toList.set j (.int .u8 x)).toArray, e, h0, hr, by rw [bc_len]; exact n1, n2, by simpa using n3, ?_⟩⟩
      rw [List.toList_toArray, List.take_set, n4]
    · cases hy
theorem LB.grownO {α : Type} {R : (Nat → Prop) → World → List Value → α → Prop} (hR : Mov R) {t : TypeId} {k B : Nat} {w w' : World} {v : Value} {ys : List α} (h : LB R t k B w v ys) {o : Option Nat} (hg : w.grownBy w' o) (hb : ∀ b, o = some b → b < B) : LB R t k B w' v ys := by
  obtain ⟨rows, h0, h1, h2, h3⟩ := h
  refine ⟨rows, h0, World.ownsRow.kept h1 hg ?_, h2, h3.mono fun r a h => hR _ _ w w' r a h hg.size fun j hj hlt => ⟨hg.block j hlt (fun e => by have := hb j e.symm; omega), hj⟩⟩
  cases hv : v.ownBlock with
  | none => exact .inl rfl
  | some g => exact .inr fun e => by have := h2 g hv; have := hb g e.symm; omega
theorem OApp.grownO {B : Nat} {w w' : World} {r : List Value} {a : PApp} (h : OApp B w r a) {o : Option Nat} (hg : w.grownBy w' o) (hb : ∀ b, o = some b → b < B) : OApp B w' r a := by
  obtain ⟨ve, vl, vs, e, h1, h2, h3⟩ := h
  exact ⟨ve, vl, vs, e, h1.grownO mov_oent hg hb, h2.grownO mov_olea hg hb, h3.grownO mov_oses hg hb⟩

set_option maxRecDepth 10000 in
set_option maxHeartbeats 4000000 in
theorem decodesN_any (w : World) (bv : Value) (l : List Int) (h : Rd w bv l) (hl : l.length ≤ 140737488355300) :
    Calls Try.prog 5 #[bv] w fun e w' => e = .returned (.bool true) ∧ Below w.heap.size w w' := by
  have le := Nat.le_refl w.heap.size
  have hA := snapAlive_any w
  have HRD := (show Hid (∀ u, Below w.heap.size w u → Rd u bv l) from fun u hu => h.below hu)
  have hcas : (dcE l = 0 ∧ snE (dcA l) = 0 ∧ snB (dcA l) = l) ∨ dcE l = 101 := by
    unfold dcE dcA
    cases hd : decA l with
    | none => exact .inr rfl
    | some A =>
      obtain ⟨h1, h2, h3⟩ := (decA_some h.1 A).1 hd
      exact .inl ⟨rfl, if_pos h2, (if_pos h2).trans h3.symm⟩
  have HCS := (show Hid (_) from hcas)
  have hby := h.1
  clear hcas
  go_enter Try.func5, Try.ntmps5
  go_upto_region 3 with (go_at_call 6; refine hA.mono ?_; rintro e w1 ⟨rfl, B1⟩)
  have h1 := h.below B1
  go_upto_region 4 with (at_builtin; refine app_copy rfl _ _ rfl rfl bv l rfl h1 (by omega) ?_; intro v3 w3 ho3 hf3 hb3)
  obtain ⟨ao, co, hvo, hco⟩ := ho3.form
  rw [bc_len] at hvo
  subst hvo
  have B3 := below_and B1 le hb3
  have hD := snapDecode_any w3 _ l (ho3.rd hby) hl
  have hol := ho3.lt
  clear hA h1 h
  go_upto_region 5 with (go_at_call 12; refine hD.mono ?_; rintro e w4 hP; obtain ⟨r4, rfl, hO4, hb4⟩ := hP; obtain ⟨ae4, ce4, al4, cl4, an4, cn4, hr4⟩ := forms9 hO4; subst hr4)
  obtain ⟨A, hAA⟩ : ∃ A, A = dcA l := ⟨_, rfl⟩
  obtain ⟨E, hEE⟩ : ∃ E, E = dcE l := ⟨_, rfl⟩
  rw [← hAA] at hO4 HCS ⊢
  rw [← hEE] at HCS ⊢
  obtain ⟨w5, hw5⟩ : ∃ w5, w5 = w4.alloc (.cells #[.int .i64 A.1, .slice ae4 A.2.1.length ce4, .slice al4 A.2.2.1.length cl4, .slice an4 A.2.2.2.length cn4] 27) := ⟨_, rfl⟩
  have y5 : Row w5 w4.heap.size 27 [.int .i64 A.1, .slice ae4 A.2.1.length ce4, .slice al4 A.2.2.1.length cl4, .slice an4 A.2.2.2.length cn4] := by rw [hw5]; exact Row.new w4 27 _
  have hb5 : Below w4.heap.size w4 w5 := by rw [hw5]; exact below_alloc _ _
  rw [← hw5]
  obtain ⟨b5, hb5'⟩ : ∃ b5, b5 = w4.heap.size := ⟨_, rfl⟩
  rw [← hb5'] at y5 ⊢
  have hbl : w3.heap.size ≤ b5 := by rw [hb5']; exact hb4.size
  have hb35 := below_and hb4 (Nat.le_refl _) hb5
  have B5 := below_and B3 le hb35
  have hO5 := hO4.below hb5
  have ho5 := ho3.below hb35
  have hof : Fr w.heap.size (Value.slice ao l.length co) := hf3.mono B1.size
  obtain ⟨N, hN⟩ : ∃ N, N = l.length := ⟨_, rfl⟩
  have HN := (show Hid (N = l.length) from hN)
  have hNm : (N : Int) ≤ 9223372036854775807 := by omega
  rw [← hN] at ho5 hol hof ⊢
  have HAE := (show Hid (A = dcA l ∧ E = dcE l) from ⟨hAA, hEE⟩)
  clear hw5 hb5' hb5 hb4 hb35 hO4 ho3 hD hf3 hb3 B3 hN hAA hEE B1
  go_wp2_with fail
  go_loopw [23] (fun i wr => ∃ (q : Nat) (lq : List Int), q ≤ N ∧ i = .int .i64 q ∧ Hid (Own wr 5 (.slice ao N co) (bc lq) ∧ lq.length = N ∧ Byt lq) ∧ w5.grownBy wr (Value.slice ao N co).ownBlock) (fun i _ => N - (intOf i).toNat)
  case atStart => exact ⟨0, l, Nat.zero_le _, rfl, ⟨ho5, HN.out.symm, hby⟩, grown_of_below (Below.refl _ _) _⟩
  case round =>
    clear ho5
    obtain ⟨q, lq, hq, rfl, HO, hgr⟩ := hrel
    by_cases hql : q < N
    · obtain ⟨ho, hlq, hbq⟩ := HO.out
      obtain ⟨k, kc, cur, y, e, k1, k2, k4, k5, k6, k7, k8⟩ := ho.at_byteU (j := q) (by omega)
      injection e with e1 e2 e3
      subst e1 e3
      have c2 := k4.cell k6
      have hy := hbq y (List.mem_of_getElem? k7)
      have hx := xor_rngU hy
      have hqi : (q : Int) < (N : Int) := by omega
      clear e2 k1 k7 ho hbq hlq
      go_wp2_with (refine wl_set rfl _ _ _ rfl k q _ rfl rfl _ _ k4 k5 (by kernel_rfl) rfl ?_; intro w16 hr16 hg16)
      go_roundw
      case rel =>
        obtain ⟨_, hlq, hbq⟩ := HO.out
        refine ⟨q + 1, lq.set q (bits .xor .u8 y 255), by omega, by go_num, ⟨k8 _ _ hr16.out, by rw [List.length_set]; exact hlq, fun z hz => ?_⟩, grown_trans hgr hg16 (.inl rfl)⟩
        rcases List.mem_or_eq_of_mem_set hz with hz | rfl
        · exact hbq z hz
        · exact hx
      case measure => simp [intOf]; omega
    · have hqd : decide ((q : Int) < N) = false := by simp; omega
      have Br : Below w.heap.size w wr := B5.trans (grown_below hgr B5.size (fun k hk => hof k hk))
      have hOr := hO5.grownO hgr (fun b hb => hol b hb)
      have yr := y5.grown hgr (fun e => by have := hol _ e; omega)
      have hD := refDecodeU wr bv l (HRD.out wr Br) hl
      clear hO5 y5 B5 hgr HO
      go_upto_region 11 with (go_at_call 13; refine hD.mono ?_; rintro e w6 hP; obtain ⟨r6, rfl, hO6, hb6⟩ := hP; obtain ⟨ae6, ce6, al6, cl6, an6, cn6, hr6⟩ := forms9 hO6; subst hr6)
      rw [← HAE.out.1] at hO6 ⊢
      rw [← HAE.out.2]
      obtain ⟨w7, hw7⟩ : ∃ w7, w7 = w6.alloc (.cells #[.int .i64 A.1, .slice ae6 A.2.1.length ce6, .slice al6 A.2.2.1.length cl6, .slice an6 A.2.2.2.length cn6] 27) := ⟨_, rfl⟩
      have y7 : Row w7 w6.heap.size 27 [.int .i64 A.1, .slice ae6 A.2.1.length ce6, .slice al6 A.2.2.1.length cl6, .slice an6 A.2.2.2.length cn6] := by rw [hw7]; exact Row.new w6 27 _
      have hb7 : Below w6.heap.size w6 w7 := by rw [hw7]; exact below_alloc _ _
      rw [← hw7]
      obtain ⟨b7, hb7'⟩ : ∃ b7, b7 = w6.heap.size := ⟨_, rfl⟩
      rw [← hb7'] at y7 ⊢
      have hr7 := below_and hb6 (Nat.le_refl _) hb7
      have B7 := below_and Br le hr7
      have z7 := yr.below hr7
      have o7 := hOr.app.below hr7
      have p7 := hO6.app.below hb7
      have hS := sameA_eq w7 _ _ A o7 p7
      have hd1 : (E != E) = false := by simp
      clear hw7 hb7' hb7 hb6 hr7 hOr hO6 yr hD
      go_upto_region 13 with (first
        | (refine wl_load_w (by rfl) _ _ rfl b5 rfl _ _ z7 _ Try.underlying27 rfl (by kernel_rfl) ?_)
        | (refine wl_load_w (by rfl) _ _ rfl b7 rfl _ _ y7 _ Try.underlying27 rfl (by kernel_rfl) ?_)
        | (go_at_call 11; refine hS.mono ?_; rintro e w8 ⟨rfl, hb8⟩))
      have B8 := below_and B7 le hb8
      have z8 := z7.below hb8
      have hE := snapEncode_any w8 _ A (o7.below hb8)
      clear z7 y7 o7 p7 hS hd1
      go_upto_region 14 with (first
        | (refine wl_load rfl _ _ rfl b5 rfl _ _ z8 _ Try.underlying27 rfl (by kernel_rfl) ?_)
        | (go_at_call 8; refine hE.mono ?_; rintro e w9 ⟨v9, rfl, ho9, hf9, hb9⟩))
      have B9 := below_and B8 le hb9
      clear hE z8
      rcases HCS.out with ⟨h1, h2, h3⟩ | h1
      · rw [h2, h1]
        rw [h3] at ho9
        have hT := same_any w9 v9 bv l l (ho9.rd hby) (HRD.out w9 B9)
        rw [decide_eq_true rfl] at hT
        clear h1 h2 h3 HCS ho9
        go_wp2_with (go_at_call 10; refine hT.mono ?_; rintro e w9 ⟨rfl, rfl⟩)
        go_ret
        exact ⟨rfl, B9⟩
      · rw [h1]
        clear h1 HCS ho9
        go_wp2_with fail
        go_ret
        exact ⟨rfl, B9⟩
end Go.Proofs.Ytejkkhlblnepeaa
end
