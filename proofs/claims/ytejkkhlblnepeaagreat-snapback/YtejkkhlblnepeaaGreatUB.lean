/- catenarylaw10.SnapBack: its walk. (Made by mk10b.py.) -/
import Derived.Test.YtejkkhlblnepeaaGreatUC
import Derived.Test.YtejkkhlblnepeaaGreatUA
import Derived.Test.YtejkkhlblnepeaaGreatXF
import Derived.Test.YtejkkhlblnepeaaGreatXH
import Derived.Test.YtejkkhlblnepeaaGreatLc
import Derived.Sort.AtCall
import Derived.Deep.RegionHeld3
section
set_option linter.unusedVariables false
set_option linter.unusedSimpArgs false
namespace Go.Proofs.YtejkkhlblnepeaaGreat
open Go.RowKit Oct Kvl

section
variable {P : Program}
/-- One more record, and where the row then lies. -/
theorem wl_pushU {α : Type} {R : (Nat → Prop) → World → List Value → α → Prop} (hR : Mov R) {w : World} {ops : Array Oper} {rest : List Oper} {o : Oper} {a : Act} {Q : Exit → Act → World → Prop} (hgd : o.guard = none) (s x : Operand) (t : TypeId)
    (ho : o.op = .call { callee := .builtin .append, args := #[s, x], argTypes := #[t, t] }) (e : TypeId) (k bytes : Nat) (z : Value) (ht : P.underlying t = some (.slice e)) (hi : (P.info? e).map (fun i => (i.zero, i.size, i.bytes)) = some (some z, k, bytes))
    (hzs : z.cells.size = k) (hk : 0 < k) (B : Nat) (v : Value) (ys : List α) (hs : a.eval s = v) (hL : LB R e k B w v ys) (r : List Value) (y : α) (C : Nat) (hr : R (From C) w r y) (hrl : r.length = k) (h1 : ∀ u ∈ r, u.oneCell' = true)
    (hC : B ≤ C) (hCv : ∀ g, v.ownBlock = some g → g < C) (hx : a.eval x = .slice (some ⟨w.heap.size, 0, none⟩) 1 1) (hB : B ≤ w.heap.size)
    (hb : (ys.length + 1) * bytes ≤ 140737488355328) (hb0 : 1 ≤ bytes)
    (h : ∀ v' w', LB R e k B w' v' (ys ++ [y]) → w.grownBy w' v.ownBlock → (v'.ownBlock = v.ownBlock ∨ ∀ g, v'.ownBlock = some g → w.heap.size ≤ g) → wpList P ops Q rest (a.put o.dst v') w') : wpList P ops Q (o :: rest) a (w.alloc (.cells r.toArray e)) := by
  obtain ⟨i0, hi, hz0, hz1, hz2⟩ := info_parts hi
  obtain ⟨rows, h0, hown, hfr, hall⟩ := hL
  have hlen := hall.len
  have hbel := below_alloc w (.cells r.toArray e)
  have hown1 : (w.alloc (.cells r.toArray e)).ownsRow 0 e k v rows.length rows.flatten := World.ownsRow.kept (row := none) hown ⟨hbel.os, hbel.tape, hbel.output, hbel.size, fun k hk _ => hbel.block k hk⟩ (by cases hv : v.ownBlock <;> simp)
  have hmul : ys.length + 1 ≤ (ys.length + 1) * bytes := Nat.le_mul_of_pos_right _ hb0
  refine wpList_append_lies (w.alloc (.cells r.toArray e)) hgd s x t ho 0 e i0 z k bytes ht hi hz0 hz1 hz2 hzs hk v rows.length rows.flatten hs hown1 ⟨w.heap.size, 0, none⟩ 1 1 r hx (by omega)
    (fun j u hj => by
      rw [Addr.add_mid, Nat.zero_add]
      exact (Row.new w e r).cell hj) h1 (by omega) (by rw [hlen]; unfold maxLen; omega) (by rw [hlen]; exact hb) (Nat.zero_le _) (w.heap.size + 1) (by simp) ?_
  intro g cap w' hown' hgr hat hlt
  have hg0 : w.grownBy w' v.ownBlock := grown_trans (grown_of_below hbel _) hgr (.inl rfl)
  have hgB : B ≤ g := by
    rcases hat with hat | hat
    · exact hfr g hat
    · omega
  have hflat : rows.flatten ++ r = (rows ++ [r]).flatten := by simp
  refine h _ w' ⟨rows ++ [r], ?_, ?_, ?_, ?_⟩ hg0 (hat.imp (fun e => e.symm) (fun e q hq => by simp [Value.ownBlock] at hq; omega))
  · intro q hq
    rcases List.mem_append.1 hq with hq | hq
    · exact h0 q hq
    · simp at hq; subst hq; exact hrl
  · rw [List.length_append, ← hflat]
    exact hown'
  · exact fun j hj => by simp [Value.ownBlock] at hj; omega
  · have hold : All2 (R (fun b => B ≤ b ∧ (Value.slice (some ⟨g, 0, none⟩) (rows.length + 1) cap).ownBlock ≠ some b) w') rows ys := hall.mono fun q b hq => hR _ _ w w' q b hq hg0.size fun j hj hjl => by
      refine ⟨hg0.block j hjl (fun e => hj.2 e.symm), hj.1, fun e => ?_⟩
      simp [Value.ownBlock] at e
      rcases hat with hat | hat
      · exact hj.2 (by rw [hat, e])
      · omega
    have hnew : R (fun b => B ≤ b ∧ (Value.slice (some ⟨g, 0, none⟩) (rows.length + 1) cap).ownBlock ≠ some b) w' r y := hR _ _ w w' r y hr hg0.size fun j hj hjl => by
      unfold From at hj
      refine ⟨hg0.block j hjl (fun e => by have := hCv j e.symm; omega), by omega, fun e => ?_⟩
      simp [Value.ownBlock] at e
      rcases hat with hat | hat
      · have := hCv g hat; omega
      · omega
    exact All2.app hold ⟨hnew, trivial⟩

end
/-- A request whose texts lie above block n. -/
def RQg (n : Nat) (G : Nat → Prop) (w : World) (r : List Value) (x : PReq) : Prop := RReq (fun k => G k ∧ n < k) w r x
theorem mov_rqg (n : Nat) : Mov (RQg n) := fun G G' w w' r a h hs hm => mov_req _ _ _ _ _ _ h hs (fun k hk hlt => ⟨(hm k hk.1 hlt).1, (hm k hk.1 hlt).2, hk.2⟩)
theorem LB.rlQ {n B : Nat} {w : World} {v : Value} {ys : List PReq} (h : LB (RQg n) 29 4 B w v ys) (hn : v.ownBlock ≠ some n) : RL RReq 4 (fun k => k ≠ n) w v ys := by
  obtain ⟨rows, h1, h2⟩ := h.rl (mov_rqg n)
  refine ⟨rows, ⟨h1.1, ?_⟩, h2.mono fun r a hr => mov_req _ _ _ _ _ _ hr (Nat.le_refl _) (fun k hk _ => ⟨rfl, by have := hk.2; omega⟩)⟩
  rcases h1.2 with h | ⟨b, off, cap, e1, e2, e3, e4, e5, e6, e7⟩
  · exact .inl h
  · exact .inr ⟨b, off, cap, e1, e2, e3, e4, fun e => hn (by rw [e1, ← e]; rfl), e6, e7⟩
theorem rgt_sz {a : PApp} (h : rgtA a) : szA a := by
  obtain ⟨_, ⟨e1, _, e3⟩, ⟨l1, _, l3⟩, h4⟩ := h
  have h5 := rgn_len h4
  refine ⟨⟨by omega, fun x hx => ?_⟩, ⟨by omega, fun x hx => ?_⟩, ⟨by omega, fun x hx => ?_⟩⟩
  · obtain ⟨n1, n2, n3⟩ := e3 x hx
    exact ⟨by unfold szT; omega, by unfold szT; omega⟩
  · obtain ⟨⟨n1, n2⟩, _⟩ := l3 x hx
    unfold szS szT
    omega
  · obtain ⟨_, _, _, n7⟩ := chk_all h4 _ hx
    unfold szN szT
    omega
theorem runA_rgt : ∀ (l : List PReq) (a : PApp), wfN a.2.2.2 → rgtA a → rgtA (runA a l)
  | [], a, _, h => h
  | r :: l, a, hw, h => runA_rgt l (applyA a r).1 (applyA_wf hw) (applyA_rgt hw h)
theorem Tryz.inf_reqB : (Tryz.prog.info? 29).map (fun i => (i.zero, i.size, i.bytes)) = some (some (.agg #[.int .i64 0, .int .i64 0, .slice none 0 0, .slice none 0 0]), 4, 64) := by kernel_rfl
theorem lenRB {G : Nat → Prop} {w : World} {r : List Value} {a : PReq} (h : RReq G w r a) : r.length = 4 := by obtain ⟨_, _, rfl, _⟩ := h; rfl
theorem oneRB {G : Nat → Prop} {w : World} {r : List Value} {a : PReq} (h : RReq G w r a) : ∀ u ∈ r, u.oneCell' = true := by obtain ⟨_, _, rfl, h1, h2⟩ := h; exact onQ4 h1.one h2.one
theorem takeB {α : Type} (ys : List α) (q : Nat) (a : α) (h : ys[q]? = some a) : ys.take (q + 1) = ys.take q ++ [a] := by
  rw [List.take_add_one, h]; rfl

set_option maxRecDepth 10000 in
set_option maxHeartbeats 16000000 in
theorem backN_any (w : World) (lv mv : Value) (ys zs : List PReq) (h1 : RL RReq 4 Any w lv ys) (h2 : RL RReq 4 Any w mv zs) (z1 : szL 64 szQ ys) (z2 : szL 64 szQ zs) :
    Calls Tryz.prog 4 #[lv, mv] w fun e w' => e = .returned (.bool true) ∧ Below w.heap.size w w' := by
  have le := Nat.le_refl w.heap.size
  obtain ⟨al, cl, rfl, hcl⟩ := h1.form
  obtain ⟨am, cm, rfl, hcm⟩ := h2.form
  obtain ⟨N, hN⟩ : ∃ N, N = ys.length := ⟨_, rfl⟩
  obtain ⟨M, hM⟩ : ∃ M, M = zs.length := ⟨_, rfl⟩
  rw [← hN] at h1 ⊢
  rw [← hM] at h2 ⊢
  have EACH : ∀ (v : Value) (xs : List PReq), RL RReq 4 Any w v xs → (∀ y ∈ xs, szQ y) → ∀ (q : Nat) (y : PReq), xs[q]? = some y → ∃ bb off cap, v = .slice (some ⟨bb, off, none⟩) xs.length cap ∧ ∃ o g, o.oneCell' = true ∧ g.oneCell' = true ∧ szQ y ∧ ∀ u, Below w.heap.size w u → u.rangeAt bb (off + q * 4) [.int .i64 y.1, .int .i64 y.2.1, o, g] ∧ RReq Any u [.int .i64 y.1, .int .i64 y.2.1, o, g] y := fun v xs h hz q y hy => by
    have hl : 0 < xs.length := by have := (List.getElem?_eq_some_iff.1 hy).1; omega
    obtain ⟨bb, off, cap, e, hc, hm, _, hb, hx'⟩ := h.at hl
    obtain ⟨r, _, hr, o, g, rfl, t1, t2⟩ := hx' q y hy
    exact ⟨bb, off, cap, e, o, g, t1.one, t2.one, hz y (List.mem_of_getElem? hy), fun u hu => ⟨rangeAt_block hr (hu.block bb hb), mov_req _ _ _ _ _ _ ⟨o, g, rfl, t1, t2⟩ hu.size (fun k _ hlt => ⟨hu.block k hlt, trivial⟩)⟩⟩
  have HE1 := (show Hid (∀ (q : Nat) (y : PReq), ys[q]? = some y → ∃ bb off cap, Value.slice al N cl = .slice (some ⟨bb, off, none⟩) N cap ∧ ∃ o g, o.oneCell' = true ∧ g.oneCell' = true ∧ szQ y ∧ ∀ u, Below w.heap.size w u → u.rangeAt bb (off + q * 4) [.int .i64 y.1, .int .i64 y.2.1, o, g] ∧ RReq Any u [.int .i64 y.1, .int .i64 y.2.1, o, g] y) by rw [hN]; rw [hN] at h1; exact EACH _ ys h1 z1.2)
  have HE2 := (show Hid (∀ (q : Nat) (y : PReq), zs[q]? = some y → ∃ bb off cap, Value.slice am M cm = .slice (some ⟨bb, off, none⟩) M cap ∧ ∃ o g, o.oneCell' = true ∧ g.oneCell' = true ∧ szQ y ∧ ∀ u, Below w.heap.size w u → u.rangeAt bb (off + q * 4) [.int .i64 y.1, .int .i64 y.2.1, o, g] ∧ RReq Any u [.int .i64 y.1, .int .i64 y.2.1, o, g] y) by rw [hM]; rw [hM] at h2; exact EACH _ zs h2 z2.2)
  have HZ1 := (show Hid (∀ y ∈ ys, szQ y) from z1.2)
  have HZ2 := (show Hid (∀ y ∈ zs, szQ y) from z2.2)
  have HN := (show Hid (ys.length = N) from hN.symm)
  have HM := (show Hid (zs.length = M) from hM.symm)
  have hlm : (N : Int) ≤ 9223372036854775807 := by have := z1.1; omega
  have hmm : (M : Int) ≤ 9223372036854775807 := by have := z2.1; omega
  clear hN hM h1 h2 hcl hcm z1 z2 EACH
  have hA := snapAlive_any w
  by_cases h200 : 200 < N
  · have h200' : decide ((200 : Int) < N) = true := by simp; omega
    go_enter Tryz.func4, Tryz.ntmps4
    go_wp2_with (go_at_call 17; refine hA.mono ?_; rintro e w1 ⟨rfl, hb1⟩)
    go_ret
    exact ⟨rfl, hb1⟩
  have h200' : decide ((200 : Int) < N) = false := by simp; omega
  by_cases m200 : 200 < M
  · have m200' : decide ((200 : Int) < M) = true := by simp; omega
    go_enter Tryz.func4, Tryz.ntmps4
    go_wp2_with (go_at_call 17; refine hA.mono ?_; rintro e w1 ⟨rfl, hb1⟩)
    go_ret
    exact ⟨rfl, hb1⟩
  have m200' : decide ((200 : Int) < M) = false := by simp; omega
  go_enter Tryz.func4, Tryz.ntmps4
  go_upto_region 5 with (go_at_call 17; refine hA.mono ?_; rintro e w1 ⟨rfl, B1⟩)
  go_upto_region 6 with fail
  obtain ⟨w2, hw2⟩ : ∃ w2, w2 = (w1.alloc (.cells #[] 29)).alloc (.cells #[] 29) := ⟨_, rfl⟩
  rw [← hw2]
  obtain ⟨g2, hg2⟩ : ∃ g2, g2 = w1.heap.size + 1 := ⟨_, rfl⟩
  have r2 : Row w2 g2 29 [] := by
    rw [hw2, hg2]
    have := Row.new (w1.alloc (.cells #[] 29)) 29 []
    simpa using this
  have hL0 : LB (RQg g2) 29 4 w1.heap.size w2 (.slice (some ⟨w1.heap.size, 0, none⟩) 0 0) [] := by
    rw [hw2]
    exact (LB.fresh (RQg g2) 29 4 w1.heap.size w1 (Nat.le_refl _)).below (mov_rqg g2) (below_alloc _ _)
  have hb2 : Below w1.heap.size w1 w2 := by rw [hw2]; exact below_and (below_alloc _ _) (Nat.le_refl _) (below_alloc _ _)
  have hne0 : (Value.slice (some ⟨w1.heap.size, 0, none⟩) 0 0).ownBlock ≠ some g2 := by simp [Value.ownBlock]; omega
  have hg1 : w1.heap.size ≤ g2 := by omega
  rw [← hg2]
  clear hw2 hg2 hA
  go_wp2_with fail
  go_loopw [5, 30] (fun v i wr => ∃ q : Nat, q ≤ N ∧ i = .int .i64 q ∧ LB (RQg g2) 29 4 w1.heap.size wr v (ys.take q) ∧ v.ownBlock ≠ some g2 ∧ Row wr g2 29 [] ∧ Below w1.heap.size w1 wr) (fun _ i _ => N - (intOf i).toNat)
  case atStart => exact ⟨0, by omega, rfl, hL0, hne0, r2, hb2⟩
  case round =>
    clear hL0 hne0 r2 hb2
    obtain ⟨q, hq, rfl, hLB, hne, r2, hbr⟩ := hrel
    have Br := below_and B1 le hbr
    by_cases hql : q < N
    · obtain ⟨y, hy⟩ : ∃ y, ys[q]? = some y := ⟨_, List.getElem?_eq_getElem (by have := HN.out; omega)⟩
      obtain ⟨bb, off, cap, e, so, sg, s1, s2, hzy, HR⟩ := HE1.out q y hy
      injection e with e1 e2 e3
      subst e1 e3
      have hrng := (HR wr Br).1
      have hone := onQ4 (n := y.1) (m := y.2.1) s1 s2
      have hrow0 := Row.new wr 29 [.int .i64 0, .int .i64 0, .slice none 0 0, .slice none 0 0]
      have hqi : (q : Int) < (N : Int) := by omega
      have HA := (show Hid (ys.take (q + 1) = ys.take q ++ [y]) from takeB ys q y hy)
      have HTL := (show Hid ((ys.take q).length = q) by show _ = _; rw [List.length_take]; have := HN.out; omega)
      have HRR := (show Hid (∀ u, Below w.heap.size w u → RReq Any u [.int .i64 y.1, .int .i64 y.2.1, so, sg] y) from fun u hu => (HR u hu).2)
      clear HR e2 hy
      go_upto_region 9 with (first
        | (refine wpList_load_mid rfl _ _ rfl bb (off + q * 4) rfl [.int .i64 y.1, .int .i64 y.2.1, so, sg] _ hrng Tryz.underlying29 rfl (by kernel_rfl) ?_)
        | (refine wl_store rfl _ _ _ rfl wr.heap.size [.int .i64 y.1, .int .i64 y.2.1, so, sg] rfl rfl _ _ hrow0 rfl (by kernel_rfl) hone ?_; intro w5 hr5 hg5))
      have hr5 := hr5.out
      have hb5 : Below wr.heap.size wr w5 := (below_alloc wr (.cells ([.int .i64 0, .int .i64 0, .slice none 0 0, .slice none 0 0] : List Value).toArray 29)).trans (grown_below hg5 (by simp) (fun k hk => by cases hk; exact Nat.le_refl _))
      have hB5 := below_and hbr (Nat.le_refl _) hb5
      have B5 := below_and B1 le hB5
      have hLB5 := hLB.below (mov_rqg g2) hb5
      have hlt5 := hLB5.lt
      have hfr := hLB.fr
      have r5 := r2.below hb5
      have hg5l : g2 < w5.heap.size := r5.lt
      have hC := copyReq_any w5 [.int .i64 y.1, .int .i64 y.2.1, so, sg] y (HRR.out w5 B5) hzy
      obtain ⟨gb, hgb⟩ : ∃ gb, gb = wr.heap.size := ⟨_, rfl⟩
      rw [← hgb] at hr5 ⊢
      clear hrng hone hrow0 hg5 hgb hLB hzy HRR r2
      go_wp2_with (first
        | (refine wl_load rfl _ _ rfl gb rfl _ _ hr5 _ Tryz.underlying29 rfl (by kernel_rfl) ?_)
        | (go_at_call 7; refine hC.mono ?_; rintro e w6 ⟨r6, rfl, hR6, hb6⟩; have k6 := oneRB hR6; have l6 := lenRB hR6; have hR6q : RQg g2 (From w5.heap.size) w6 r6 y := mov_req _ _ _ _ _ _ hR6 (Nat.le_refl _) (fun k hk _ => ⟨rfl, hk, Nat.lt_of_lt_of_le hg5l hk⟩); have hR6' := hR6; obtain ⟨q1, q2, rfl, t1, t2⟩ := hR6'; have hLB6 := hLB5.below (mov_rqg g2) hb6; have hB6 := below_and hB5 (Nat.le_refl _) hb6; have r6' := r5.below hb6)
        | (at_builtin; refine wl_pushU (mov_rqg g2) rfl _ _ _ rfl 29 4 64 _ Tryz.underlying46 Tryz.inf_reqB rfl (by decide) w1.heap.size u5 (ys.take q) rfl hLB6 [.int .i64 y.1, .int .i64 y.2.1, q1, q2] y w5.heap.size hR6q l6 k6 hB5.size hlt5 rfl hB6.size (by rw [HTL.out]; omega) (by decide) ?_; intro v7 w7 hLB7 hg7 hat7))
      rw [← HA.out] at hLB7
      have hne7 : v7.ownBlock ≠ some g2 := by
        rcases hat7 with h | h
        · rw [h]; exact hne
        · intro e; have := h _ e; have := r6'.lt; omega
      have r7 := r6'.grown hg7 hne
      go_roundw
      case rel => exact ⟨q + 1, by omega, by go_num, hLB7, hne7, r7, hB6.trans (grown_below hg7 hB6.size (fun k hk => hfr k hk))⟩
      case measure => simp [intOf]; omega
    · have hqd : decide ((q : Int) < N) = false := by simp; omega
      rw [List.take_of_length_le (by have := HN.out; omega)] at hLB
      have hF := hLB.rlQ hne
      have hfirst := (show Hid (∀ u, wr.grownBy u (some g2) → RL RReq 4 Any u u5 ys) from fun u hu => hF.mv mov_req hu.size (fun k hk hlt => ⟨hu.block k hlt (fun e => hk (by injection e)), trivial⟩))
      obtain ⟨wS, rfl⟩ : ∃ wS, wS = wr := ⟨_, rfl⟩
      have hS0 : LB RReq 29 4 g2 wS (.slice (some ⟨g2, 0, none⟩) 0 0) [] := ⟨[], (fun r h => by cases h), ⟨rfl, .inr ⟨g2, 0, #[], rfl, Nat.zero_le _, r2, Nat.le_refl _, Nat.zero_le _, rfl, rfl⟩⟩, fr_at _ _ _ _ (Nat.le_refl _), trivial⟩
      have hat0 : ∀ g, (Value.slice (some ⟨g2, 0, none⟩) 0 0).ownBlock = some g → g = g2 ∨ wS.heap.size ≤ g := fun g hg => by simp [Value.ownBlock] at hg; omega
      have hgS : wS.grownBy wS (some g2) := grown_of_below (Below.refl _ _) _
      have hgl : g2 < wS.heap.size := r2.lt
      clear hLB hne hF r2 hq h200'
      go_wp2_with fail
      go_loopw [6, 42] (fun v i wr => ∃ q : Nat, q ≤ M ∧ i = .int .i64 q ∧ LB RReq 29 4 g2 wr v (zs.take q) ∧ (∀ g, v.ownBlock = some g → g = g2 ∨ wS.heap.size ≤ g) ∧ wS.grownBy wr (some g2)) (fun _ i _ => M - (intOf i).toNat)
      case atStart => exact ⟨0, by omega, rfl, hS0, hat0, hgS⟩
      case round =>
        clear hS0 hat0 hgS
        obtain ⟨q, hq, rfl, hLB, hat, hgr⟩ := hrel
        have hbr2 : Below w1.heap.size w1 wr := hbr.trans (grown_below hgr hbr.size (fun k hk => by cases hk; exact hg1))
        have Br := below_and B1 le (Below.refl _ w1)
        have Br : Below w.heap.size w wr := B1.trans (hbr2.mono B1.size)
        by_cases hql : q < M
        · obtain ⟨y, hy⟩ : ∃ y, zs[q]? = some y := ⟨_, List.getElem?_eq_getElem (by have := HM.out; omega)⟩
          obtain ⟨bb, off, cap, e, so, sg, s1, s2, hzy, HR⟩ := HE2.out q y hy
          injection e with e1 e2 e3
          subst e1 e3
          have hrng := (HR wr Br).1
          have hone := onQ4 (n := y.1) (m := y.2.1) s1 s2
          have hrow0 := Row.new wr 29 [.int .i64 0, .int .i64 0, .slice none 0 0, .slice none 0 0]
          have hqi : (q : Int) < (M : Int) := by omega
          have HA := (show Hid (zs.take (q + 1) = zs.take q ++ [y]) from takeB zs q y hy)
          have HTL := (show Hid ((zs.take q).length = q) by show _ = _; rw [List.length_take]; have := HM.out; omega)
          have HRR := (show Hid (∀ u, Below w.heap.size w u → RReq Any u [.int .i64 y.1, .int .i64 y.2.1, so, sg] y) from fun u hu => (HR u hu).2)
          clear HR e2 hy
          go_upto_region 14 with (first
            | (refine wpList_load_mid rfl _ _ rfl bb (off + q * 4) rfl [.int .i64 y.1, .int .i64 y.2.1, so, sg] _ hrng Tryz.underlying29 rfl (by kernel_rfl) ?_)
            | (refine wl_store rfl _ _ _ rfl wr.heap.size [.int .i64 y.1, .int .i64 y.2.1, so, sg] rfl rfl _ _ hrow0 rfl (by kernel_rfl) hone ?_; intro w5 hr5 hg5))
          have hr5 := hr5.out
          have hb5 : Below wr.heap.size wr w5 := (below_alloc wr (.cells ([.int .i64 0, .int .i64 0, .slice none 0 0, .slice none 0 0] : List Value).toArray 29)).trans (grown_below hg5 (by simp) (fun k hk => by cases hk; exact Nat.le_refl _))
          have B5 := below_and Br le hb5
          have hLB5 := hLB.below mov_req hb5
          have hlt5 := hLB5.lt
          have hfr := hLB.fr
          have hgw : g2 ≤ w5.heap.size := by have := hgr.size; have := hb5.size; omega
          have hC := copyReq_any w5 [.int .i64 y.1, .int .i64 y.2.1, so, sg] y (HRR.out w5 B5) hzy
          obtain ⟨gb, hgb⟩ : ∃ gb, gb = wr.heap.size := ⟨_, rfl⟩
          rw [← hgb] at hr5 ⊢
          clear hrng hone hrow0 hg5 hgb hLB hzy HRR
          go_wp2_with (first
            | (refine wl_load rfl _ _ rfl gb rfl _ _ hr5 _ Tryz.underlying29 rfl (by kernel_rfl) ?_)
            | (go_at_call 7; refine hC.mono ?_; rintro e w6 ⟨r6, rfl, hR6, hb6⟩; have k6 := oneRB hR6; have l6 := lenRB hR6; have hR6' := hR6; obtain ⟨q1, q2, rfl, t1, t2⟩ := hR6'; have hLB6 := hLB5.below mov_req hb6)
            | (at_builtin; refine wl_pushU mov_req rfl _ _ _ rfl 29 4 64 _ Tryz.underlying46 Tryz.inf_reqB rfl (by decide) g2 u6 (zs.take q) rfl hLB6 [.int .i64 y.1, .int .i64 y.2.1, q1, q2] y w5.heap.size hR6 l6 k6 hgw hlt5 rfl (Nat.le_trans hgw hb6.size) (by rw [HTL.out]; omega) (by decide) ?_; intro v7 w7 hLB7 hg7 hat7))
          rw [← HA.out] at hLB7
          have hb56 := below_and hb5 (Nat.le_refl _) hb6
          have hsz : wS.heap.size ≤ w6.heap.size := Nat.le_trans hgr.size hb56.size
          have hat7' : ∀ g, v7.ownBlock = some g → g = g2 ∨ wS.heap.size ≤ g := fun g hg => by
            rcases hat7 with h | h
            · exact hat g (by rw [← h]; exact hg)
            · exact .inr (Nat.le_trans hsz (h g hg))
          have hgr6 : wS.grownBy w6 (some g2) := grown_trans hgr (grown_of_below hb56 (some g2)) (.inl rfl)
          have hgr7 : wS.grownBy w7 (some g2) := ⟨hg7.os.trans hgr6.os, hg7.tape.trans hgr6.tape, hg7.output.trans hgr6.output, Nat.le_trans hgr6.size hg7.size, fun k hk hne => (hg7.block k (Nat.lt_of_lt_of_le hk hsz) (fun e => by rcases hat k e.symm with h | h; exact hne (by rw [h]); omega)).trans (hgr6.block k hk hne)⟩
          go_roundw
          case rel => exact ⟨q + 1, by omega, by go_num, hLB7, hat7', hgr7⟩
          case measure => simp [intOf]; omega
        · have hqd : decide ((q : Int) < M) = false := by simp; omega
          rw [List.take_of_length_le (by have := HM.out; omega)] at hLB
          have hsec := (hLB.rl mov_req).mv mov_req (Nat.le_refl _) Mv.any
          have hfst := hfirst.out wr hgr
          have hrg := runA_rgt ys (0, [], [], []) (fun e he => by cases he) rgt0
          have HRG := (show Hid (rgtA (runA (0, [], [], []) ys)) from hrg)
          have hsz := rgt_sz hrg
          obtain ⟨A, hA⟩ : ∃ A, A = runA (0, [], [], []) ys := ⟨_, rfl⟩
          have hR1 := run_any wr [.int .i64 0, .slice none 0 0, .slice none 0 0, .slice none 0 0] (0, [], [], []) (OApp.zero 0 wr).app (rgt_sz rgt0) _ ys hfst HZ1.out
          rw [← hA] at hR1 hsz HRG
          have hn : ∀ x ∈ ([.int .i64 0, .slice none 0 0, .slice none 0 0, .slice none 0 0] : List Value), x.oneCell' = true := by decide
          clear hA hrg hLB hfst
          go_upto_region 17 with (go_at_call 18; refine hR1.mono ?_; rintro e w6 ⟨r6, rfl, hO6, hb6⟩; obtain ⟨ae6, ce6, al6, cl6, an6, cn6, rfl⟩ := forms9 hO6)
          obtain ⟨w7, hw7⟩ : ∃ w7, w7 = w6.alloc (.cells #[.int .i64 A.1, .slice ae6 A.2.1.length ce6, .slice al6 A.2.2.1.length cl6, .slice an6 A.2.2.2.length cn6] 26) := ⟨_, rfl⟩
          have z7 : Row w7 w6.heap.size 26 [.int .i64 A.1, .slice ae6 A.2.1.length ce6, .slice al6 A.2.2.1.length cl6, .slice an6 A.2.2.2.length cn6] := by rw [hw7]; exact Row.new w6 26 _
          have hb7 : Below w6.heap.size w6 w7 := by rw [hw7]; exact below_alloc _ _
          rw [← hw7]
          obtain ⟨b7, hb7'⟩ : ∃ b7, b7 = w6.heap.size := ⟨_, rfl⟩
          rw [← hb7'] at z7 ⊢
          have hO7 := hO6.app.below hb7
          have hw7s : Below wr.heap.size wr w7 := below_and hb6 (Nat.le_refl _) hb7
          have hE := snapEncode_any w7 _ A hO7
          have hby := snB_byt hO7
          rw [show snE A = 0 from if_pos HRG.out] at hE
          have hwf := hO7.wfA
          have hdc : decA (snB A) = some A := (decA_some hby A).2 ⟨hwf, HRG.out, if_pos HRG.out⟩
          have hdA : dcA (snB A) = A := by unfold dcA; rw [hdc]; rfl
          have hdE : dcE (snB A) = 0 := by unfold dcE; rw [hdc]; rfl
          have hln : (snB A).length ≤ 140737488355300 := by
            have h3 := HRG.out
            have e1 : snB A = wrA A := if_pos h3
            rw [e1, wrA_eq]
            have n1 := outI_len A.1
            have n2 := outI_len (A.2.1.length : Int)
            have n3 := outI_len (A.2.2.1.length : Int)
            have n4 := outI_len (A.2.2.2.length : Int)
            have k1 := wrN_len (c := cEn 16 64) A.2.1 (fun e he => wrE_len (h3.2.1.2.2 e he))
            have k2 := wrN_len (c := cLe 16) A.2.2.1 (fun e he => wrL_len (h3.2.2.1.2.2 e he))
            have k3 := wrN_len (c := cSe 64) A.2.2.2 (fun e he => wrS_len (chk_all h3.2.2.2 e he))
            have m1 := h3.2.1.1
            have m2 := h3.2.2.1.1
            have m3 := rgn_len h3.2.2.2
            simp only [List.length_append]
            omega
          have HD := (show Hid (∀ u v, Rd u v (snB A) → Calls Tryz.prog 20 #[v] u fun e w' => ∃ ae ce al cl an cn, e = .returned (.tuple #[.agg #[.int .i64 A.1, .slice ae A.2.1.length ce, .slice al A.2.2.1.length cl, .slice an A.2.2.2.length cn], .int .i64 0]) ∧ RApp Any w' [.int .i64 A.1, .slice ae A.2.1.length ce, .slice al A.2.2.1.length cl, .slice an A.2.2.2.length cn] A ∧ Below u.heap.size u w') from fun u v hv => (snapDecode_any u v (snB A) hv hln).mono fun e w' hP => by
            obtain ⟨row, e1, e2, e3⟩ := hP
            rw [hdE] at e1
            rw [hdA] at e2
            obtain ⟨ae, ce, al, cl, an, cn, rfl⟩ := forms9 e2
            exact ⟨_, _, _, _, _, _, e1, e2.app, e3⟩)
          generalize snB A = SB at *
          clear hdc hdA hdE hln hw7 hb7' hR1 hO6 hb6 hwf
          go_upto_region 18 with (first
            | (refine wl_load rfl _ _ rfl b7 rfl _ _ z7 _ Tryz.underlying26 rfl (by kernel_rfl) ?_)
            | (go_at_call 19; refine hE.mono ?_; rintro e w8 ⟨v8, rfl, ho8, hf8, hb8⟩))
          have hD := HD.out w8 v8 (ho8.rd hby)
          go_upto_region 19 with (go_at_call 20; refine hD.mono ?_; rintro e w9 ⟨ae9, ce9, al9, cl9, an9, cn9, rfl, hO9, hb9⟩)
          obtain ⟨w10, hw10⟩ : ∃ w10, w10 = w9.alloc (.cells #[.int .i64 A.1, .slice ae9 A.2.1.length ce9, .slice al9 A.2.2.1.length cl9, .slice an9 A.2.2.2.length cn9] 26) := ⟨_, rfl⟩
          have z10 : Row w10 w9.heap.size 26 [.int .i64 A.1, .slice ae9 A.2.1.length ce9, .slice al9 A.2.2.1.length cl9, .slice an9 A.2.2.2.length cn9] := by rw [hw10]; exact Row.new w9 26 _
          have hb10 : Below w9.heap.size w9 w10 := by rw [hw10]; exact below_alloc _ _
          rw [← hw10]
          obtain ⟨b10, hb10'⟩ : ∃ b10, b10 = w9.heap.size := ⟨_, rfl⟩
          rw [← hb10'] at z10 ⊢
          have hb710 := below_and (below_and hb8 (Nat.le_refl _) hb9) (Nat.le_refl _) hb10
          have hbR := below_and hw7s (Nat.le_refl _) hb710
          have hc10 := hO9.below hb10
          have ha10 := hO7.below hb710
          have z7 := z7.below hb710
          have hs10 := hsec.mv mov_req hbR.size (Mv.below hbR)
          have B10 : Below w.heap.size w w10 := Br.trans (hbR.mono Br.size)
          clear hw10 hb10' hD HD hE hb8 hb9 hb10 hb710 hbR hO7 hO9 hsec ho8 hf8 hby hw7s hb7 SB
          have HS1 := (show Hid (∀ u, Below w10.heap.size w10 u → Calls Tryz.prog 14 #[.agg #[.int .i64 A.1, .slice ae6 A.2.1.length ce6, .slice al6 A.2.2.1.length cl6, .slice an6 A.2.2.2.length cn6], .agg #[.int .i64 A.1, .slice ae9 A.2.1.length ce9, .slice al9 A.2.2.1.length cl9, .slice an9 A.2.2.2.length cn9]] u fun e w' => e = .returned (.bool true) ∧ Below w10.heap.size w10 w') from fun u hu => (sameA_eq u _ _ A (ha10.below hu) (hc10.below hu)).mono fun e w' ⟨e1, e2⟩ => ⟨e1, below_and hu (Nat.le_refl _) e2⟩)
          have HRa := (show Hid (∀ u, Below w10.heap.size w10 u → Calls Tryz.prog 18 #[.agg #[.int .i64 A.1, .slice ae6 A.2.1.length ce6, .slice al6 A.2.2.1.length cl6, .slice an6 A.2.2.2.length cn6], u6] u fun e w' => ∃ r, e = .returned (.agg r) ∧ Hid (∀ z, Below w'.heap.size w' z → RApp Any z r.toList (runA A zs)) ∧ Below w10.heap.size w10 w') from fun u hu => (run_any u _ A (ha10.below hu) hsz _ zs (hs10.mv mov_req hu.size (Mv.below hu)) HZ2.out).mono fun e w' ⟨r', e1, e2, e3⟩ => ⟨_, e1, fun z hz => by simpa using (e2.app.below hz), below_and hu (Nat.le_refl _) e3⟩)
          have HRc := (show Hid (∀ u, Below w10.heap.size w10 u → Calls Tryz.prog 18 #[.agg #[.int .i64 A.1, .slice ae9 A.2.1.length ce9, .slice al9 A.2.2.1.length cl9, .slice an9 A.2.2.2.length cn9], u6] u fun e w' => ∃ r, e = .returned (.agg r) ∧ Hid (∀ z, Below w'.heap.size w' z → RApp Any z r.toList (runA A zs)) ∧ Below u.heap.size u w' ∧ Below w10.heap.size w10 w') from fun u hu => (run_any u _ A (hc10.below hu) hsz _ zs (hs10.mv mov_req hu.size (Mv.below hu)) HZ2.out).mono fun e w' ⟨r', e1, e2, e3⟩ => ⟨_, e1, fun z hz => by simpa using (e2.app.below hz), e3, below_and hu (Nat.le_refl _) e3⟩)
          have HS2 := (show Hid (∀ (u : World) (r1 r2 : Array Value), Below w10.heap.size w10 u → RApp Any u r1.toList (runA A zs) → RApp Any u r2.toList (runA A zs) → Calls Tryz.prog 14 #[.agg r1, .agg r2] u fun e w' => e = .returned (.bool true) ∧ Below w10.heap.size w10 w') from fun u r1 r2 hu g1 g2 => (sameA_eq u r1.toList r2.toList _ g1 g2).mono fun e w' ⟨e1, e2⟩ => ⟨e1, below_and hu (Nat.le_refl _) e2⟩)
          have SK := (show Hid (∀ u, Below w10.heap.size w10 u → u.cell? ⟨b7, 0, none⟩ = some (.int .i64 A.1) ∧ u.cell? ⟨b7, 1, none⟩ = some (.slice ae6 A.2.1.length ce6) ∧ u.cell? ⟨b7, 2, none⟩ = some (.slice al6 A.2.2.1.length cl6) ∧ u.cell? ⟨b7, 3, none⟩ = some (.slice an6 A.2.2.2.length cn6) ∧ u.cell? ⟨b10, 0, none⟩ = some (.int .i64 A.1) ∧ u.cell? ⟨b10, 1, none⟩ = some (.slice ae9 A.2.1.length ce9) ∧ u.cell? ⟨b10, 2, none⟩ = some (.slice al9 A.2.2.1.length cl9) ∧ u.cell? ⟨b10, 3, none⟩ = some (.slice an9 A.2.2.2.length cn9)) from fun u hu => ⟨(z7.below hu).cell (j := 0) rfl, (z7.below hu).cell (j := 1) rfl, (z7.below hu).cell (j := 2) rfl, (z7.below hu).cell (j := 3) rfl, (z10.below hu).cell (j := 0) rfl, (z10.below hu).cell (j := 1) rfl, (z10.below hu).cell (j := 2) rfl, (z10.below hu).cell (j := 3) rfl⟩)
          have hdw : Below w10.heap.size w10 w10.drew := ⟨rfl, rfl, rfl, Nat.le_refl _, fun _ _ => rfl⟩
          clear z7 z10 ha10 hc10 hs10
          try go_simp
          go_wp2_with fail
          go_region_held3 (fun u => u.cell? ⟨b7, 0, none⟩ = some (.int .i64 A.1) ∧ u.cell? ⟨b7, 1, none⟩ = some (.slice ae6 A.2.1.length ce6) ∧ u.cell? ⟨b7, 2, none⟩ = some (.slice al6 A.2.2.1.length cl6) ∧ u.cell? ⟨b7, 3, none⟩ = some (.slice an6 A.2.2.2.length cn6) ∧ u.cell? ⟨b10, 0, none⟩ = some (.int .i64 A.1) ∧ u.cell? ⟨b10, 1, none⟩ = some (.slice ae9 A.2.1.length ce9) ∧ u.cell? ⟨b10, 2, none⟩ = some (.slice al9 A.2.2.1.length cl9) ∧ u.cell? ⟨b10, 3, none⟩ = some (.slice an9 A.2.2.2.length cn9))
            (first | (with_reducible exact SK.out w14 hB14) | (with_reducible exact SK.out w13 hB13) | (with_reducible exact SK.out w12 hB12) | (with_reducible exact SK.out w11 hB11) | (with_reducible exact SK.out w10 (Below.refl _ _)) | (with_reducible exact SK.out w10.drew hdw) | go_keep)
            (first
              | (go_at_call_has 18 (Value.agg #[.int .i64 A.1, .slice ae9 A.2.1.length ce9, .slice al9 A.2.2.1.length cl9, .slice an9 A.2.2.2.length cn9]); refine (HRc.out _ (by first | (with_reducible exact hB12) | (with_reducible exact hB12.drew))).mono ?_; rintro e w13 ⟨r13, rfl, k13, hb13, hB13⟩)
              | (go_at_call_has 18 (Value.agg #[.int .i64 A.1, .slice ae6 A.2.1.length ce6, .slice al6 A.2.2.1.length cl6, .slice an6 A.2.2.2.length cn6]); refine (HRa.out _ (by first | (with_reducible exact hB11) | (with_reducible exact hB11.drew))).mono ?_; rintro e w12 ⟨r12, rfl, k12, hB12⟩)
              | (go_at_call_has 14 (Value.agg #[.int .i64 A.1, .slice ae6 A.2.1.length ce6, .slice al6 A.2.2.1.length cl6, .slice an6 A.2.2.2.length cn6]); refine (HS1.out _ (by first | (with_reducible exact Below.refl _ _) | (with_reducible exact hdw))).mono ?_; rintro e w11 ⟨rfl, hB11⟩)
              | (go_at_call 14; refine (HS2.out _ _ _ (by first | (with_reducible exact hB13) | (with_reducible exact hB13.drew)) (k12.out _ (by first | (with_reducible exact hb13) | (with_reducible exact hb13.drew))) (k13.out _ (by first | (with_reducible exact Below.refl _ _) | (with_reducible exact (Below.refl _ _).drew)))).mono ?_; rintro e w14 ⟨rfl, hB14⟩))
          all_goals (
            go_wp2_with fail
            go_ret
            exact ⟨rfl, below_and B10 le hB14⟩)
end Go.Proofs.YtejkkhlblnepeaaGreat
end
