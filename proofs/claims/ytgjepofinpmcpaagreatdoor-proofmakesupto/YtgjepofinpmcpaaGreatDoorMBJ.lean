/- The document's kinds and their fields. -/
import Derived.Test.YtgjepofinpmcpaaGreatDoorMBF
import Derived.Test.YtgjepofinpmcpaaGreatDoorMAE
import Derived.Test.YtgjepofinpmcpaaGreatDoorMBG
import Derived.Deep.CutBlock
import Derived.Test.YtgjepofinpmcpaaGreatDoorMAC
import Derived.Test.YtgjepofinpmcpaaGreatDoorMAD
import Derived.Test.YtgjepofinpmcpaaGreatDoorMAK
set_option linter.unusedSimpArgs false
set_option linter.unusedVariables false
namespace Go.Proofs.YtgjepofinpmcpaaGreatDoor
section
open Go.RowKit Oct Kvl
def RCh (G : Nat → Prop) (w : World) (v : Value) (r : zB3) (g : List Int) (t : Bool) : Prop :=
  ∃ o p s, v = .agg #[.int .i64 r.1, .int .i64 r.2.1, o, p, s, .bool t] ∧ RT G w o r.2.2.1 ∧ RT G w p r.2.2.2 ∧ RT G w s g
theorem RCh.mv {G G' : Nat → Prop} {w w' : World} {v : Value} {r : zB3} {g : List Int} {t : Bool} (h : RCh G w v r g t) (hm : Mv G G' w w') : RCh G' w' v r g t := by
  obtain ⟨o, p, s, e, h1, h2, h3⟩ := h
  exact ⟨o, p, s, e, h1.mv hm, h2.mv hm, h3.mv hm⟩
structure Lg (G : Nat → Prop) (w : World) (b m : Nat) (ls : List PSn) : Prop where
  row : Row w b 114 [.map (some m)]
  ok : OkL ls
  map : ∃ l, Mp w m l ∧ zC0 (fun (z : PK × Value) (y : PSn) => z.1 = y.key ∧ RCh G w z.2 y.req y.sig y.told) l ls
def NM (m : Nat) : Nat → Prop := fun k => k ≠ m
theorem Lg.ne {G : Nat → Prop} {w : World} {b m : Nat} {ls : List PSn} (h : Lg G w b m ls) : b ≠ m := by
  rintro rfl
  obtain ⟨l, h1, _⟩ := h.map
  have h2 := h.row.cell (j := 0) rfl
  rw [h1.nocell 0] at h2
  cases h2
theorem Lg.mv {G G' : Nat → Prop} {w w' : World} {b m : Nat} {ls : List PSn} (h : Lg G w b m ls) (hb : w'.heap[b]? = w.heap[b]?) (hmb : w'.heap[m]? = w.heap[m]?) (hm : Mv G G' w w') : Lg G' w' b m ls := by
  obtain ⟨l, h1, h2⟩ := h.map
  refine ⟨hb.trans h.row, h.ok, l, ?_, h2.mono fun z y hz => ⟨hz.1, hz.2.mv hm⟩⟩
  obtain ⟨es, clock, h3, h4⟩ := h1
  exact ⟨es, clock, hmb.trans h3, h4⟩
theorem Lg.below {G : Nat → Prop} {w w' : World} {b m : Nat} {ls : List PSn} (h : Lg G w b m ls) (hb : Below w.heap.size w w') : Lg G w' b m ls := by
  obtain ⟨l, h1, h2⟩ := h.map
  exact h.mv (hb.block b h.row.lt) (hb.block m h1.lt) (Mv.belowG hb)
theorem Lg.lt {G : Nat → Prop} {w : World} {b m : Nat} {ls : List PSn} (h : Lg G w b m ls) : b < w.heap.size ∧ m < w.heap.size := by
  obtain ⟨l, h1, h2⟩ := h.map
  exact ⟨h.row.lt, h1.lt⟩
theorem Mv.nm {m : Nat} {G : Nat → Prop} {w w' : World} (hG : ∀ k, G k → k ≠ m) (hg : w.grownBy w' (some m)) : Mv G G w w' := fun k hk hlt => ⟨hg.block k hlt (fun e => hG k hk (by injection e)), hk⟩
theorem newG_any (w : World) : Calls Tryz.prog 32 #[] w fun e w' => e = .returned (.pointer (some ⟨w.heap.size + 1, 0, none⟩)) ∧ Lg (NM w.heap.size) w' (w.heap.size + 1) w.heap.size [] ∧ Below w.heap.size w w' := by
  have hmm := @run_makeMap Tryz.prog
  have hm1 := Mp.made w
  obtain ⟨w1, hw1⟩ : ∃ w1, w1 = w.alloc (.map #[] 0) := ⟨_, rfl⟩
  have hs : w1.heap.size = w.heap.size + 1 := by rw [hw1]; simp
  have hb1 : Below w.heap.size w w1 := by rw [hw1]; exact zA0 _ _
  rw [← hw1] at hm1
  go_enter Tryz.func32, Tryz.ntmps32
  go_wp2_with fail
  go_ret
  rw [← hw1]
  have hr := Row.new w1 114 [.map (some w.heap.size)]
  rw [hs] at hr
  exact ⟨rfl, ⟨hr, OkL.nil, [], hm1.below (zA0 _ _), trivial⟩, hb1.alloc hb1.size _⟩
theorem lenG_any {G : Nat → Prop} (w : World) (b m : Nat) (ls : List PSn) (h : Lg G w b m ls) : Calls Tryz.prog 131 #[.pointer (some ⟨b, 0, none⟩)] w fun e w' => e = .returned (.int .i64 (ls.length : Int)) ∧ w' = w := by
  have c0 := h.row.cell (j := 0) rfl
  obtain ⟨l, h1, h2⟩ := h.map
  have hln := h1.len
  rw [h2.len] at hln
  clear h h1 h2
  go_enter Tryz.func131, Tryz.ntmps131
  go_wp2_with fail
  go_ret
  exact ⟨rfl, rfl⟩
end
section
open Go.RowKit Oct Kvl
theorem zC0.setR {α β : Type} {R : α → β → Prop} : ∀ {ps : List α} {bs : List β} {j : Nat} {a : α} {b : β}, zC0 R ps bs → R a b → zC0 R (ps.set j a) (bs.set j b)
  | [], [], j, a, b, _, _ => by simp [zC0]
  | x :: ps, y :: bs, 0, a, b, h, hr => ⟨hr, h.2⟩
  | x :: ps, y :: bs, j + 1, a, b, h, hr => ⟨h.1, zC0.setR h.2 hr⟩
  | [], _ :: _, _, _, _, h, _ => h.elim
  | _ :: _, [], _, _, _, h, _ => h.elim
theorem zIg {G : Nat → Prop} {w : World} : ∀ {l : List (PK × Value)} {ls : List PSn}, zC0 (fun (z : PK × Value) (y : PSn) => z.1 = y.key ∧ RCh G w z.2 y.req y.sig y.told) l ls → l.map (·.1) = zDi ls
  | [], [], _ => rfl
  | z :: l, y :: ls, h => by
    have := zIg h.2
    unfold zDi at this ⊢
    simp [h.1.1, this]
  | [], _ :: _, h => h.elim
  | _ :: _, [], h => h.elim
theorem Lg.rowm {G : Nat → Prop} {w w' : World} {b m : Nat} {ls : List PSn} (h : Lg G w b m ls) (hg : w.grownBy w' (some m)) : Row w' b 114 [.map (some m)] :=
  h.row.grown hg fun e => h.ne (Option.some.inj e).symm
set_option maxHeartbeats 1000000 in
theorem zSz {G : Nat → Prop} (w : World) (b m : Nat) (ls : List PSn) (h : Lg G w b m ls) (hG : ∀ k, G k → k ≠ m) (q : PK) (hq : fnd q (zDi ls) = none) (v : Value) (r : zB3) (g : List Int) (hv : RCh G w v r g false)
    (hr : tot [r.2.2.1, r.2.2.2] ≤ 2000000) (hg : szT g) :
    Calls Tryz.prog 107 #[.pointer (some ⟨b, 0, none⟩), kv q, v] w fun e w' => e = .returned (.tuple #[]) ∧ Lg G w' b m (zBw ls q r g).1 ∧ w.grownBy w' (some m) := by
  have hok := h.ok.meet q hr hg
  rw [zIq hq] at hok ⊢
  obtain ⟨o, p, s, rfl, t1, t2, t3⟩ := hv
  obtain ⟨ao, co, rfl, _⟩ := t1.form
  obtain ⟨ap, cp, rfl, _⟩ := t2.form
  obtain ⟨as_, cs, rfl, _⟩ := t3.form
  obtain ⟨k, x, y, sl, i⟩ := q
  obtain ⟨w2, hw2⟩ : ∃ w2, w2 = (w.alloc (.cells #[.int .i64 k, .int .i64 x, .int .i64 y, .int .i64 sl, .int .i64 i] 116)).alloc (.cells #[.int .i64 r.1, .int .i64 r.2.1, .slice ao r.2.2.1.length co, .slice ap r.2.2.2.length cp, .slice as_ g.length cs, .bool false] 120) := ⟨_, rfl⟩
  have ra : Row w2 w.heap.size 116 [.int .i64 k, .int .i64 x, .int .i64 y, .int .i64 sl, .int .i64 i] := by rw [hw2]; exact rowA (Row.new w 116 _) _
  have rb : Row w2 (w.heap.size + 1) 120 [.int .i64 r.1, .int .i64 r.2.1, .slice ao r.2.2.1.length co, .slice ap r.2.2.2.length cp, .slice as_ g.length cs, .bool false] := by
    rw [hw2]
    have := Row.new (w.alloc (.cells #[.int .i64 k, .int .i64 x, .int .i64 y, .int .i64 sl, .int .i64 i] 116)) 120 [.int .i64 r.1, .int .i64 r.2.1, .slice ao r.2.2.1.length co, .slice ap r.2.2.2.length cp, .slice as_ g.length cs, .bool false]
    simpa using this
  have B : Below w.heap.size w w2 := by rw [hw2]; exact ((Below.refl _ w).alloc zN _).alloc (by simp) _
  have h2 := h.below B
  have hL := lenG_any w2 b m ls h2
  have c0 := h2.row.cell (j := 0) rfl
  obtain ⟨l, hl1, hl2⟩ := h2.map
  rw [← zIg hl2] at hq
  obtain ⟨w3, hput, hp2, hp3⟩ := Mp.put_new (w := w2.drew) hl1 hq (.agg #[.int .i64 r.1, .int .i64 r.2.1, .slice ao r.2.2.1.length co, .slice ap r.2.2.2.length cp, .slice as_ g.length cs, .bool false])
  simp only [kv] at hput ⊢
  by_cases hlen : ls.length < 8192
  · have hd : decide ((ls.length : Int) < 8192) = true := by simp; omega
    simp only [if_pos hlen] at hok ⊢
    go_enter Tryz.func107, Tryz.ntmps107
    go_upto_region 1 with fail
    rw [← hw2]
    clear hw2
    go_upto_region 2 with (go_at_call 131; refine hL.mono ?_; rintro e w2 ⟨rfl, rfl⟩)
    have a0 := ra.cell (j := 0) rfl; have a1 := ra.cell (j := 1) rfl; have a2 := ra.cell (j := 2) rfl; have a3 := ra.cell (j := 3) rfl; have a4 := ra.cell (j := 4) rfl
    have b0 := rb.cell (j := 0) rfl; have b1 := rb.cell (j := 1) rfl; have b2 := rb.cell (j := 2) rfl; have b3 := rb.cell (j := 3) rfl; have b4 := rb.cell (j := 4) rfl; have b5 := rb.cell (j := 5) rfl
    go_region
    go_end0
    have hg3 := zB1 hp3
    have hmv : Mv G G w2 w3 := Mv.nm hG hg3
    exact ⟨rfl, ⟨h2.rowm hg3, hok, _, hp2, zC0.app (hl2.mono fun z y hz => ⟨hz.1, hz.2.mv hmv⟩) ⟨⟨rfl, _, _, _, rfl, (t1.mv (Mv.belowG B)).mv hmv, (t2.mv (Mv.belowG B)).mv hmv, (t3.mv (Mv.belowG B)).mv hmv⟩, trivial⟩⟩,
      zA2 (zA8 B _) hg3 (.inl rfl)⟩
  · have hd : decide ((ls.length : Int) < 8192) = false := by simp; omega
    simp only [if_neg hlen] at hok ⊢
    go_enter Tryz.func107, Tryz.ntmps107
    go_upto_region 1 with fail
    rw [← hw2]
    clear hw2
    go_wp2_with (go_at_call 131; refine hL.mono ?_; rintro e w2 ⟨rfl, rfl⟩)
    go_end0
    exact ⟨rfl, h2, zA8 B _⟩
end
section
open Go.RowKit Oct Kvl
def z23 : List Value := [.int .i64 0, .int .i64 0, .int .i64 0, .int .i64 0, .int .i64 0, .int .i64 0, .int .i64 0, .int .i64 0, .int .i64 0, .int .i64 0, .slice none 0 0, .slice none 0 0, .int .i64 0, .int .i64 0, .slice none 0 0, .slice none 0 0, .slice none 0 0, .slice none 0 0, .slice none 0 0, .slice none 0 0, .slice none 0 0, .slice none 0 0, .slice none 0 0]
theorem zSf {r : zB3} (h : tot [r.2.2.1, r.2.2.2] ≤ 2000000) : szQ r := by
  unfold szQ szT
  simp only [tot] at h
  omega
theorem ev0_sz {q : PK} {r1 r2 : zB3} {g1 g2 : List Int} (h1 : tot [r1.2.2.1, r1.2.2.2] ≤ 2000000) (h2 : tot [r2.2.2.1, r2.2.2.2] ≤ 2000000) (k1 : szT g1) (k2 : szT g2) : szM (ev0 q r1 g1 r2 g2) :=
  ⟨zSf h1, zSf h2, k2, k1, ⟨by simp [ev0, zAc], by simp [ev0, zAc]⟩, ⟨by simp [ev0, zAc], by simp [ev0, zAc]⟩, ⟨by simp [ev0, zAc], by simp [ev0, zAc]⟩, ⟨by simp [ev0, zAc], by simp [ev0, zAc]⟩, ⟨by simp [ev0, zAc], by simp [ev0, zAc]⟩⟩
def svE (o1 p1 s1 o2 p2 s2 : Value) : SV := ⟨o1, p1, o2, p2, s2, s1, .slice none 0 0, .slice none 0 0, .slice none 0 0, .slice none 0 0, .slice none 0 0⟩
theorem ev0_sok {G : Nat → Prop} {w : World} (q : PK) {r1 r2 : zB3} {g1 g2 : List Int} {o1 p1 s1 o2 p2 s2 : Value} (a1 : RT G w o1 r1.2.2.1) (a2 : RT G w p1 r1.2.2.2) (a3 : RT G w s1 g1) (b1 : RT G w o2 r2.2.2.1) (b2 : RT G w p2 r2.2.2.2) (b3 : RT G w s2 g2) :
    SOk G w (ev0 q r1 g1 r2 g2) (svE o1 p1 s1 o2 p2 s2) :=
  ⟨a1, a2, b1, b2, b3, a3, RL.nil _ _ _ _, RL.nil _ _ _ _, RL.nil _ _ _ _, RL.nil _ _ _ _, RL.nil _ _ _ _⟩
set_option maxRecDepth 10000 in
set_option maxHeartbeats 2000000 in
theorem zG4 (w : World) (q : PK) (v1 v2 : Value) (r1 r2 : zB3) (g1 g2 : List Int) (t1 t2 : Bool) (h1 : RCh Any w v1 r1 g1 t1) (h2 : RCh Any w v2 r2 g2 t2) (z1 : tot [r1.2.2.1, r1.2.2.2] ≤ 2000000) (z2 : tot [r2.2.2.1, r2.2.2.2] ≤ 2000000) (k1 : szT g1) (k2 : szT g2) :
    Calls Tryz.prog 108 #[kv q, v1, v2] w fun e w' => ∃ s, e = .returned (.agg (mc (ev0 q r1 g1 r2 g2) s).toArray) ∧ SOk (zB0 w.heap.size) w' (ev0 q r1 g1 r2 g2) s ∧ Below w.heap.size w w' := by
  have hz := ev0_sz (q := q) z1 z2 k1 k2
  obtain ⟨o1, p1, s1, rfl, a1, a2, a3⟩ := h1
  obtain ⟨o2, p2, s2, rfl, b1, b2, b3⟩ := h2
  obtain ⟨ao1, ca1, rfl, _⟩ := a1.form
  obtain ⟨ap1, cp1, rfl, _⟩ := a2.form
  obtain ⟨as1, cs1, rfl, _⟩ := a3.form
  obtain ⟨ao2, ca2, rfl, _⟩ := b1.form
  obtain ⟨ap2, cp2, rfl, _⟩ := b2.form
  obtain ⟨as2, cs2, rfl, _⟩ := b3.form
  obtain ⟨k, x, y, sl, i⟩ := q
  obtain ⟨w1, hw1⟩ : ∃ w1, w1 = w.alloc (.cells #[.int .i64 k, .int .i64 x, .int .i64 y, .int .i64 sl, .int .i64 i] 116) := ⟨_, rfl⟩
  obtain ⟨w2, hw2⟩ : ∃ w2, w2 = w1.alloc (.cells #[.int .i64 r1.1, .int .i64 r1.2.1, .slice ao1 r1.2.2.1.length ca1, .slice ap1 r1.2.2.2.length cp1, .slice as1 g1.length cs1, .bool t1] 120) := ⟨_, rfl⟩
  obtain ⟨w3, hw3⟩ : ∃ w3, w3 = w2.alloc (.cells #[.int .i64 r2.1, .int .i64 r2.2.1, .slice ao2 r2.2.2.1.length ca2, .slice ap2 r2.2.2.2.length cp2, .slice as2 g2.length cs2, .bool t2] 120) := ⟨_, rfl⟩
  obtain ⟨w4, hw4⟩ : ∃ w4, w4 = w3.alloc (.cells #[.int .i64 0, .int .i64 0, .int .i64 0, .int .i64 0, .int .i64 0, .int .i64 0, .int .i64 0, .int .i64 0, .int .i64 0, .int .i64 0, .slice none 0 0, .slice none 0 0, .int .i64 0, .int .i64 0, .slice none 0 0, .slice none 0 0, .slice none 0 0, .slice none 0 0, .slice none 0 0, .slice none 0 0, .slice none 0 0, .slice none 0 0, .slice none 0 0] 40) := ⟨_, rfl⟩
  have e1 : w1.heap.size = w.heap.size + 1 := by rw [hw1]; simp
  have e2 : w2.heap.size = w.heap.size + 2 := by rw [hw2]; simp [e1]
  have e3 : w3.heap.size = w.heap.size + 3 := by rw [hw3]; simp [e2]
  have e4 : w4.heap.size = w.heap.size + 4 := by rw [hw4]; simp [e3]
  have B1 : Below w.heap.size w w1 := by rw [hw1]; exact zA0 _ _
  have B2 : Below w1.heap.size w1 w2 := by rw [hw2]; exact zA0 _ _
  have B3 : Below w2.heap.size w2 w3 := by rw [hw3]; exact zA0 _ _
  have B4 : Below w3.heap.size w3 w4 := by rw [hw4]; exact zA0 _ _
  have R1 : Row w1 w.heap.size 116 [.int .i64 k, .int .i64 x, .int .i64 y, .int .i64 sl, .int .i64 i] := by rw [hw1]; exact Row.new _ _ _
  have R2 : Row w2 (w.heap.size + 1) 120 [.int .i64 r1.1, .int .i64 r1.2.1, .slice ao1 r1.2.2.1.length ca1, .slice ap1 r1.2.2.2.length cp1, .slice as1 g1.length cs1, .bool t1] := by rw [hw2, ← e1]; exact Row.new _ _ _
  have R3 : Row w3 (w.heap.size + 2) 120 [.int .i64 r2.1, .int .i64 r2.2.1, .slice ao2 r2.2.2.1.length ca2, .slice ap2 r2.2.2.2.length cp2, .slice as2 g2.length cs2, .bool t2] := by rw [hw3, ← e2]; exact Row.new _ _ _
  have R4 : Row w4 (w.heap.size + 3) 40 [.int .i64 0, .int .i64 0, .int .i64 0, .int .i64 0, .int .i64 0, .int .i64 0, .int .i64 0, .int .i64 0, .int .i64 0, .int .i64 0, .slice none 0 0, .slice none 0 0, .int .i64 0, .int .i64 0, .slice none 0 0, .slice none 0 0, .slice none 0 0, .slice none 0 0, .slice none 0 0, .slice none 0 0, .slice none 0 0, .slice none 0 0, .slice none 0 0] := by rw [hw4, ← e3]; exact Row.new _ _ _
  have R1 := ((R1.below B2).below B3).below B4
  have R2 := (R2.below B3).below B4
  have R3 := R3.below B4
  have B : Below w.heap.size w w4 := zA1 (zA1 (zA1 B1 zN B2) zN B3) zN B4
  have hs := ev0_sok (k, x, y, sl, i) (a1.mv (Mv.below B)) (a2.mv (Mv.below B)) (a3.mv (Mv.below B)) (b1.mv (Mv.below B)) (b2.mv (Mv.below B)) (b3.mv (Mv.below B))
  have hC := zK8 w4 _ _ hs hz
  clear B1 B2 B3 B4
  have hw : w4 = (((w.alloc (.cells #[.int .i64 k, .int .i64 x, .int .i64 y, .int .i64 sl, .int .i64 i] 116)).alloc (.cells #[.int .i64 r1.1, .int .i64 r1.2.1, .slice ao1 r1.2.2.1.length ca1, .slice ap1 r1.2.2.2.length cp1, .slice as1 g1.length cs1, .bool t1] 120)).alloc (.cells #[.int .i64 r2.1, .int .i64 r2.2.1, .slice ao2 r2.2.2.1.length ca2, .slice ap2 r2.2.2.2.length cp2, .slice as2 g2.length cs2, .bool t2] 120)).alloc (.cells #[.int .i64 0, .int .i64 0, .int .i64 0, .int .i64 0, .int .i64 0, .int .i64 0, .int .i64 0, .int .i64 0, .int .i64 0, .int .i64 0, .slice none 0 0, .slice none 0 0, .int .i64 0, .int .i64 0, .slice none 0 0, .slice none 0 0, .slice none 0 0, .slice none 0 0, .slice none 0 0, .slice none 0 0, .slice none 0 0, .slice none 0 0, .slice none 0 0] 40) := by rw [hw4, hw3, hw2, hw1]
  clear hw1 hw2 hw3 hw4 e1 e2 e3
  simp only [kv]
  go_enter Tryz.func108, Tryz.ntmps108
  go_upto_region 1 with fail
  rw [← hw]
  clear hw
  have k0 := R1.cell (j := 0) rfl; have k3 := R1.cell (j := 3) rfl; have k4 := R1.cell (j := 4) rfl
  have c4 := R2.cell (j := 4) rfl; have d4 := R3.cell (j := 4) rfl
  go_wp2_with (first
    | (refine zC4 rfl _ _ rfl w.heap.size 1 rfl _ _ R1 [.int .i64 x, .int .i64 y] rfl _ Tryz.underlying32 rfl (by kernel_rfl) ?_)
    | (refine zC4 rfl _ _ rfl (w.heap.size + 1) 0 rfl _ _ R2 [.int .i64 r1.1, .int .i64 r1.2.1, .slice ao1 r1.2.2.1.length ca1, .slice ap1 r1.2.2.2.length cp1] rfl _ Tryz.underlying34 rfl (by kernel_rfl) ?_)
    | (refine zC4 rfl _ _ rfl (w.heap.size + 2) 0 rfl _ _ R3 [.int .i64 r2.1, .int .i64 r2.2.1, .slice ao2 r2.2.2.1.length ca2, .slice ap2 r2.2.2.2.length cp2] rfl _ Tryz.underlying34 rfl (by kernel_rfl) ?_)
    | (go_at_call 132; refine hC.mono ?_; rintro e w5 ⟨s5, rfl, h5, b5⟩; have R5 := R4.below b5)
    | (refine zA7 rfl _ _ _ rfl (w.heap.size + 3) (mc (ev0 (k, x, y, sl, i) r1 g1 r2 g2) s5) rfl rfl _ _ R5 rfl (by kernel_rfl) h5.one ?_; intro w6 R6 g6))
  have B5 := zA1 B zN b5
  have B6 := B5.trans (zA5 g6 B5.size (fun j hj => by cases hj; omega))
  refine bodyPost_ret (v := .agg (mc (ev0 (k, x, y, sl, i) r1 g1 r2 g2) s5).toArray) (results_cell_row rfl _ _ (w.heap.size + 3) _ _ (0, 0) _ (by rfl) R6.out Tryz.underlying40 rfl (by kernel_rfl)) rfl ?_
  exact ⟨s5, rfl, (h5.mv g6.size (Mv.from g6 (by omega) zN)).mv zN (Mv.weak (by omega)), B6⟩
end
section
open Go.RowKit Oct Kvl
def MtP (G : Nat → Prop) (w : World) (b m : Nat) (ls : List PSn) (q : PK) (r : zB3) (g : List Int) (e : Ending) (w' : World) : Prop :=
  (((zBw ls q r g).2 = [] ∧ e = .returned (.tuple #[.agg z23.toArray, .bool false])) ∨ ∃ M s, (zBw ls q r g).2 = [M] ∧ e = .returned (.tuple #[.agg (mc M s).toArray, .bool true]) ∧ SOk (zB0 w.heap.size) w' M s) ∧
    Lg G w' b m (zBw ls q r g).1 ∧ w.grownBy w' (some m)
theorem zDx {P : Program} {fn : Func} {p t : Tmp} {ty : TypeId} (h : fn.results = #[.cell p ty, .tmp t]) (tmps : Array Value) (w : World) (g : Nat) (tt : TypeId) (cs : Array Value) (fr : Nat × Nat) (d : TypeDesc)
    (hp : tmps.getD p undef = .pointer (some ⟨g, 0, none⟩)) (hg : w.heap[g]? = some (.cells cs tt fr))
    (hu : P.underlying ty = some d) (hd : (match d with | .struct _ | .array _ _ => true | _ => false) = true) (hi : (P.info? ty).map (·.size) = some cs.size) :
    (results fn tmps).run P w = .ok (.tuple #[.agg cs, tmps.getD t undef]) w := by
  have hp' : tmps[p]?.getD undef = .pointer (some ⟨g, 0, none⟩) := by simpa using hp
  simp [results, h, hp', asAddr, run_loadVar_row w g tt ty cs fr d hg hu hd hi]
theorem zNt : ∀ v ∈ z23, v.oneCell' = true := by decide
theorem zCe {m b : Nat} (h : m < b) (j : Nat) : (some m : Option Nat) ≠ some (b + j) := fun e => by have := Option.some.inj e; omega
theorem zPj {G : Nat → Prop} {B c : Nat} {w w' : World} (hg : w.grownBy w' (some (B + c))) : Mv (fun j => G j ∧ j < B) G w w' := fun j hj hlt => ⟨hg.block j hlt (zCe hj.2 c), hj.1⟩
theorem zFf {G : Nat → Prop} {B c : Nat} {w w' : World} (hg : w.grownBy w' (some (B + c))) : Mv (fun j => G j ∧ j < B) (fun j => G j ∧ j < B) w w' := fun j hj hlt => ⟨hg.block j hlt (zCe hj.2 c), hj⟩
theorem zGg {m c : Nat} {w w1 w2 : World} (h : w.grownBy w1 (some m)) (h' : w1.grownBy w2 (some (w.heap.size + c))) : w.grownBy w2 (some m) := zA2 h h' (.inr fun k hk => by have := Option.some.inj hk; omega)
set_option maxRecDepth 10000 in
set_option maxHeartbeats 2000000 in
theorem zRi {G : Nat → Prop} (w : World) (b m : Nat) (ls : List PSn) (h : Lg G w b m ls) (hG : ∀ k, G k → k ≠ m) (k x y sl i : Int) (hq : fnd (k, x, y, sl, i) (zDi ls) = none) (v : Value) (r : zB3) (g : List Int) (hv : RCh G w v r g false) (hr : tot [r.2.2.1, r.2.2.2] ≤ 2000000) (hg : szT g) :
    Calls Tryz.prog 63 #[.pointer (some ⟨b, 0, none⟩), kv (k, x, y, sl, i), v] w fun e w' => MtP G w b m ls (k, x, y, sl, i) r g e w' := by
  have h := h.mv (G' := fun j => G j ∧ j < w.heap.size) rfl rfl (fun j hj hlt => ⟨rfl, hj, hlt⟩)
  have hv := hv.mv (G' := fun j => G j ∧ j < w.heap.size) (fun j hj hlt => ⟨rfl, hj, hlt⟩)
  have hG' : ∀ j, (G j ∧ j < w.heap.size) → j ≠ m := fun j hj => hG j hj.1
  obtain ⟨o, p, s, rfl, t1, t2, t3⟩ := hv
  obtain ⟨ao, co, rfl, _⟩ := t1.form
  obtain ⟨ap, cp, rfl, _⟩ := t2.form
  obtain ⟨as0, cs0, rfl, _⟩ := t3.form
  obtain ⟨w1, hw1⟩ : ∃ w1, w1 = w.alloc (.cells #[.int .i64 k, .int .i64 x, .int .i64 y, .int .i64 sl, .int .i64 i] 116) := ⟨_, rfl⟩
  obtain ⟨w2, hw2⟩ : ∃ w2, w2 = w1.alloc (.cells #[.int .i64 r.1, .int .i64 r.2.1, .slice ao r.2.2.1.length co, .slice ap r.2.2.2.length cp, .slice as0 g.length cs0, .bool false] 120) := ⟨_, rfl⟩
  obtain ⟨w3, hw3⟩ : ∃ w3, w3 = w2.alloc (.cells #[.int .i64 0, .int .i64 0, .int .i64 0, .int .i64 0, .int .i64 0, .int .i64 0, .int .i64 0, .int .i64 0, .int .i64 0, .int .i64 0, .slice none 0 0, .slice none 0 0, .int .i64 0, .int .i64 0, .slice none 0 0, .slice none 0 0, .slice none 0 0, .slice none 0 0, .slice none 0 0, .slice none 0 0, .slice none 0 0, .slice none 0 0, .slice none 0 0] 40) := ⟨_, rfl⟩
  have e1 : w1.heap.size = w.heap.size + 1 := by rw [hw1]; simp
  have e2 : w2.heap.size = w.heap.size + 2 := by rw [hw2]; simp [e1]
  have e3 : w3.heap.size = w.heap.size + 3 := by rw [hw3]; simp [e2]
  have B1 : Below w.heap.size w w1 := by rw [hw1]; exact zA0 _ _
  have B2 : Below w1.heap.size w1 w2 := by rw [hw2]; exact zA0 _ _
  have B3 : Below w2.heap.size w2 w3 := by rw [hw3]; exact zA0 _ _
  have R1 : Row w1 w.heap.size 116 [.int .i64 k, .int .i64 x, .int .i64 y, .int .i64 sl, .int .i64 i] := by rw [hw1]; exact Row.new _ _ _
  have R2 : Row w2 (w.heap.size + 1) 120 [.int .i64 r.1, .int .i64 r.2.1, .slice ao r.2.2.1.length co, .slice ap r.2.2.2.length cp, .slice as0 g.length cs0, .bool false] := by rw [hw2, ← e1]; exact Row.new _ _ _
  have R3 : Row w3 (w.heap.size + 2) 40 [.int .i64 0, .int .i64 0, .int .i64 0, .int .i64 0, .int .i64 0, .int .i64 0, .int .i64 0, .int .i64 0, .int .i64 0, .int .i64 0, .slice none 0 0, .slice none 0 0, .int .i64 0, .int .i64 0, .slice none 0 0, .slice none 0 0, .slice none 0 0, .slice none 0 0, .slice none 0 0, .slice none 0 0, .slice none 0 0, .slice none 0 0, .slice none 0 0] := by rw [hw3, ← e2]; exact Row.new _ _ _
  have R1 := (R1.below B2).below B3
  have R2 := R2.below B3
  have B : Below w.heap.size w w3 := zA1 (zA1 B1 zN B2) zN B3
  have hw : w3 = ((w.alloc (.cells #[.int .i64 k, .int .i64 x, .int .i64 y, .int .i64 sl, .int .i64 i] 116)).alloc (.cells #[.int .i64 r.1, .int .i64 r.2.1, .slice ao r.2.2.1.length co, .slice ap r.2.2.2.length cp, .slice as0 g.length cs0, .bool false] 120)).alloc (.cells #[.int .i64 0, .int .i64 0, .int .i64 0, .int .i64 0, .int .i64 0, .int .i64 0, .int .i64 0, .int .i64 0, .int .i64 0, .int .i64 0, .slice none 0 0, .slice none 0 0, .int .i64 0, .int .i64 0, .slice none 0 0, .slice none 0 0, .slice none 0 0, .slice none 0 0, .slice none 0 0, .slice none 0 0, .slice none 0 0, .slice none 0 0, .slice none 0 0] 40) := by rw [hw3, hw2, hw1]
  clear hw1 hw2 hw3 e1 e2 B1 B2 B3
  have h3 := h.below B
  have c0 := h3.row.cell (j := 0) rfl
  have hm := h.lt.2
  have hb := h.lt.1
  obtain ⟨l, hl1, hl2⟩ := h3.map
  have hq' := hq
  rw [← zIg hl2] at hq'
  have hlk := Mp.look_none (w := w3.drew) hl1 hq'
  have hlk2 := Mp.look_none (w := (w3.alloc (.cells #[.int .i64 0, .int .i64 0, .slice none 0 0, .slice none 0 0, .slice none 0 0, .bool false] 120)).drew) (show Mp _ _ _ from hl1.below (w' := w3.alloc _) (zA0 _ _)) hq'
  simp only [kv] at hlk hlk2 ⊢
  go_enter Tryz.func63, Tryz.ntmps63
  go_upto_region 1 with fail
  rw [← hw]
  clear hw
  have a0 := R1.cell (j := 0) rfl; have a1 := R1.cell (j := 1) rfl; have a2 := R1.cell (j := 2) rfl; have a3 := R1.cell (j := 3) rfl; have a4 := R1.cell (j := 4) rfl
  have Bz := zA0 w3 (.cells #[.int .i64 0, .int .i64 0, .slice none 0 0, .slice none 0 0, .slice none 0 0, .bool false] 120)
  have cz0 := (h3.row.below Bz).cell (j := 0) rfl
  have R1z := R1.below Bz
  have Rz := Row.new w3 120 [.int .i64 0, .int .i64 0, .slice none 0 0, .slice none 0 0, .slice none 0 0, .bool false]
  have RO := Row.new w3 120 [.int .i64 0, .int .i64 0, .slice none 0 0, .slice none 0 0, .slice none 0 0, .bool false]
  have az0 := R1z.cell (j := 0) rfl; have az1 := R1z.cell (j := 1) rfl; have az2 := R1z.cell (j := 2) rfl; have az3 := R1z.cell (j := 3) rfl; have az4 := R1z.cell (j := 4) rfl
  have z0 := Rz.cell (j := 0) rfl; have z1 := Rz.cell (j := 1) rfl; have z2 := Rz.cell (j := 2) rfl; have z3 := Rz.cell (j := 3) rfl; have z4 := Rz.cell (j := 4) rfl; have z5 := Rz.cell (j := 5) rfl
  have fz := Rz.frozen
  try go_simp
  go_cut [8, 9] from 11 (fun s8 s9 wx => s8 = .pointer (some ⟨w.heap.size + 3, 0, none⟩) ∧ s9 = .bool false ∧ Below w3.heap.size w3 wx ∧ Row wx (w.heap.size + 3) 120 [.int .i64 0, .int .i64 0, .slice none 0 0, .slice none 0 0, .slice none 0 0, .bool false])
  case first =>
    go_region
    all_goals (
      go_wp2_with fail
      go_meet
      case rel => exact ⟨rfl, rfl, Below.drew (zA0 _ _), by rw [← e3]; exact RO⟩)
  case rest =>
  clear a0 a1 a2 a3 a4 az0 az1 az2 az3 az4 z0 z1 z2 z3 z4 z5 fz Rz RO R1z cz0 Bz hlk hlk2
  obtain ⟨rfl, rfl, Bc, Rc⟩ := hcut
  have hc := h3.below Bc
  have R1c := R1.below Bc
  have R2c := R2.below Bc
  have R3c := R3.below Bc
  have BC := zA1 B zN Bc
  have hK := zSz wc b m ls hc hG' (k, x, y, sl, i) hq (.agg #[.int .i64 r.1, .int .i64 r.2.1, .slice ao r.2.2.1.length co, .slice ap r.2.2.2.length cp, .slice as0 g.length cs0, .bool false]) r g ⟨_, _, _, rfl, t1.mv (Mv.belowG BC), t2.mv (Mv.belowG BC), t3.mv (Mv.belowG BC)⟩ hr hg
  simp only [kv] at hK
  go_wp2_with (first
    | (refine zAa rfl _ _ rfl w.heap.size rfl _ _ R1c _ Tryz.underlying116 rfl (by kernel_rfl) ?_)
    | (refine zAa rfl _ _ rfl (w.heap.size + 1) rfl _ _ R2c _ Tryz.underlying120 rfl (by kernel_rfl) ?_)
    | (go_at_call 107; refine hK.mono ?_; rintro e w5 ⟨rfl, h5, g5⟩; have R5 := R3c.grown g5 (zCe hm 2))
    | (refine zA7 rfl _ _ _ rfl (w.heap.size + 2) [.int .i64 0, .int .i64 0, .int .i64 0, .int .i64 0, .int .i64 0, .int .i64 0, .int .i64 0, .int .i64 0, .int .i64 0, .int .i64 0, .slice none 0 0, .slice none 0 0, .int .i64 0, .int .i64 0, .slice none 0 0, .slice none 0 0, .slice none 0 0, .slice none 0 0, .slice none 0 0, .slice none 0 0, .slice none 0 0, .slice none 0 0, .slice none 0 0] rfl rfl _ _ R5 rfl (by kernel_rfl) zNt ?_; intro w6 R6 g6))
  refine bodyPost_ret (zDx rfl _ _ (w.heap.size + 2) _ _ (0, 0) _ (by rfl) R6.out Tryz.underlying40 rfl (by kernel_rfl)) rfl ?_
  have h6 : Lg G w6 b m (zBw ls (k, x, y, sl, i) r g).1 := h5.mv (g6.block b h5.lt.1 (zCe hb 2)) (g6.block m h5.lt.2 (zCe hm 2)) (zPj g6)
  exact ⟨.inl ⟨by rw [zIq hq], rfl⟩, h6, zGg (zA2 (zA8 BC _) g5 (.inl rfl)) g6⟩
end
section
open Go.RowKit Oct
theorem zOs (k : Int) : (1 ≤ k ∧ k ≤ 13) ∨ (20 ≤ k ∧ k ≤ 25) → fl k ≠ [] := by
  intro h e
  have hc : k = 1 ∨ k = 2 ∨ k = 3 ∨ k = 4 ∨ k = 5 ∨ k = 6 ∨ k = 7 ∨ k = 8 ∨ k = 9 ∨ k = 10 ∨ k = 11 ∨ k = 12 ∨ k = 13 ∨ k = 20 ∨ k = 21 ∨ k = 22 ∨ k = 23 ∨ k = 24 ∨ k = 25 := by omega
  rcases hc with rfl | rfl | rfl | rfl | rfl | rfl | rfl | rfl | rfl | rfl | rfl | rfl | rfl | rfl | rfl | rfl | rfl | rfl | rfl <;> exact absurd e (by decide)
theorem zGn (k : Int) (h : ¬ ((1 ≤ k ∧ k ≤ 13) ∨ (20 ≤ k ∧ k ≤ 25))) : fl k = [] := by
  rcases zD7 k with rfl | rfl | rfl | rfl | rfl | rfl | rfl | rfl | rfl | rfl | rfl | rfl | rfl | rfl | rfl | rfl | rfl | rfl | rfl | e
  all_goals first | exact e | (exfalso; omega)
theorem zGy (w : World) (k : Int) : Calls Tryz.prog 47 #[.int .i64 k] w fun e w' => e = .returned (.bool (!(fl k).isEmpty)) ∧ w' = w := by
  by_cases h1 : 1 ≤ k
  · by_cases h2 : k ≤ 13
    · have : (fl k).isEmpty = false := by simpa using zOs k (.inl ⟨h1, h2⟩)
      rw [this]
      go_enter Tryz.func47, Tryz.ntmps47
      go_wp2_with fail
      go_ret
      exact ⟨rfl, rfl⟩
    · by_cases h3 : 20 ≤ k
      · by_cases h4 : k ≤ 25
        · have : (fl k).isEmpty = false := by simpa using zOs k (.inr ⟨h3, h4⟩)
          rw [this]
          go_enter Tryz.func47, Tryz.ntmps47
          go_wp2_with fail
          go_ret
          exact ⟨rfl, rfl⟩
        · have : (fl k).isEmpty = true := by rw [zGn k (by omega)]; rfl
          rw [this]
          go_enter Tryz.func47, Tryz.ntmps47
          go_wp2_with fail
          go_ret
          exact ⟨rfl, rfl⟩
      · have : (fl k).isEmpty = true := by rw [zGn k (by omega)]; rfl
        rw [this]
        go_enter Tryz.func47, Tryz.ntmps47
        go_wp2_with fail
        go_ret
        exact ⟨rfl, rfl⟩
  · have : (fl k).isEmpty = true := by rw [zGn k (by omega)]; rfl
    have h3 : ¬ 20 ≤ k := by omega
    rw [this]
    go_enter Tryz.func47, Tryz.ntmps47
    go_wp2_with fail
    go_ret
    exact ⟨rfl, rfl⟩
end
end Go.Proofs.YtgjepofinpmcpaaGreatDoor
