/- catenarylaw19.StableOne: its walk. -/
import Derived.Test.YtgpkngiakhdmhaaDoorSBBW
import Derived.Test.YtgpkngiakhdmhaaDoorSBBX
import Derived.Deep.CutRange
import Derived.Test.YtgpkngiakhdmhaaDoorSBBM
import Derived.Deep.Cut
set_option linter.unusedSimpArgs false
set_option linter.unusedVariables false
namespace Go.Proofs.YtgpkngiakhdmhaaDoor
section
open Go.RowKit Oct Stb MI Bal Sha
def iZ : List Value := List.replicate 16 (.int .i64 0)
theorem size_runO {P : Program} (t : TypeId) (n : Nat) (h1 : (P.info? t).map (·.size) = some n) (u : World) : (sizeOf t).run P u = .ok n u := by
  cases hq : P.info? t with
  | none => rw [hq] at h1; cases h1
  | some i0 =>
    rw [hq] at h1
    have h2 : i0.size = n := by simpa using h1
    simp [sizeOf, typeInfo, hq, h2]
theorem run_ixO (b i : Nat) (hi : i < 16) (u : World) : (Instr.indexAt 46 (.pointer (some ⟨b, 0, none⟩)) (.int .i64 (i : Int))).run Tryd.prog u = .ok (.pointer (some ⟨b, i, none⟩)) u := by
  have ht : Tryd.prog.underlying 46 = some (.array (Tryd.prog.arrayLen 46) (Tryd.prog.elem 46)) := by kernel_rfl
  have hn : Tryd.prog.arrayLen 46 = 16 := by kernel_rfl
  have hs : (sizeOf (Tryd.prog.elem 46)).run Tryd.prog u = .ok 1 u := size_runO _ _ (by kernel_rfl) u
  rw [run_indexAt_array u 46 _ .i64 i ht, hn, if_pos (by omega), hs]
  simp only [Result.andThen, Addr.add_mid]
  simp
theorem run_ixP (b i : Nat) (hi : i < 2) (u : World) : (Instr.indexAt 47 (.pointer (some ⟨b, 0, none⟩)) (.int .i64 (i : Int))).run Tryd.prog u = .ok (.pointer (some ⟨b, i, none⟩)) u := by
  have ht : Tryd.prog.underlying 47 = some (.array (Tryd.prog.arrayLen 47) (Tryd.prog.elem 47)) := by kernel_rfl
  have hn : Tryd.prog.arrayLen 47 = 2 := by kernel_rfl
  have hs : (sizeOf (Tryd.prog.elem 47)).run Tryd.prog u = .ok 1 u := size_runO _ _ (by kernel_rfl) u
  rw [run_indexAt_array u 47 _ .i64 i ht, hn, if_pos (by omega), hs]
  simp only [Result.andThen, Addr.add_mid]
  simp
theorem zeroO (u : World) : (zeroValue 46).run Tryd.prog u = .ok (.agg iZ.toArray) u := by
  have h1 : (Tryd.prog.info? 46).map (·.zero) = some (some (.agg iZ.toArray)) := by kernel_rfl
  cases hq : Tryd.prog.info? 46 with
  | none => rw [hq] at h1; cases h1
  | some i0 =>
    rw [hq] at h1
    have h2 : i0.zero = some (.agg iZ.toArray) := by simpa using h1
    simp [zeroValue, typeInfo, hq, h2]
theorem buildO (u : World) : (Instr.build 46 #[]).run Tryd.prog u = .ok (.agg iZ.toArray) u := by kernel_rfl
theorem sizO : (Tryd.prog.info? 46).map (·.size) = some 16 := by kernel_rfl
def iv (l : List Int) : List Value := l.map (.int .i64)
theorem iv_one (l : List Int) : ∀ u ∈ iv l, u.oneCell' = true := by
  intro u hu
  obtain ⟨x, _, rfl⟩ := List.mem_map.1 hu
  rfl
theorem iZ_iv : iZ = iv (List.replicate 16 0) := by simp [iZ, iv]
def D31 : List Int := List.replicate 31 0
def O1 : List Int := D31 ++ [1]
theorem O1_byt : Byt O1 := fun x hx => by
  rcases List.mem_append.1 hx with hx | hx
  · have := List.eq_of_mem_replicate hx
    subst this
    decide
  · simp at hx
    subst hx
    decide
theorem one_byt : Byt [1] := fun x hx => by
  simp at hx
  subst hx
  decide
theorem mk31 (u : World) : (Instr.makeSlice 26 (.int .i64 31) (.int .i64 31)).run Tryd.prog u = .ok (.slice (some ⟨u.heap.size, 0, none⟩) 31 31) (u.alloc (.cells (bc D31).toArray 5)) := by kernel_rfl
theorem bsO (u : World) : (Instr.buildSlice 26 1 #[(0, .int .u8 1)]).run Tryd.prog u = .ok (.slice (some ⟨u.heap.size, 0, none⟩) 1 1) (u.alloc (.cells #[.int .u8 1] 5)) := by kernel_rfl
theorem ownD0 (w : World) : Own (w.alloc (.cells (bc D0).toArray 5)) 5 (.slice (some ⟨w.heap.size, 0, none⟩) 32 32) (bc D0) := World.ownsRow_lit (base := 0) (size := 1) w (bc D0).toArray 32 (Nat.zero_le _) (by decide) (by decide)
theorem ownD31 (w : World) : Own (w.alloc (.cells (bc D31).toArray 5)) 5 (.slice (some ⟨w.heap.size, 0, none⟩) 31 31) (bc D31) := World.ownsRow_lit (base := 0) (size := 1) w (bc D31).toArray 31 (Nat.zero_le _) (by decide) (by decide)
theorem own_ltO {w : World} {b q c : Nat} {l : List Value} (h : Own w 5 (.slice (some ⟨b, 0, none⟩) q c) l) : b < w.heap.size := (World.ownsRow.lt h b rfl).2
theorem own_keptO {w w' : World} {b q c k : Nat} {l : List Value} (h : Own w 5 (.slice (some ⟨b, 0, none⟩) q c) l) (hg : w.grownBy w' (some k)) (hne : b ≠ k) : Own w' 5 (.slice (some ⟨b, 0, none⟩) q c) l := World.ownsRow.kept h hg (.inr (fun e => hne (Option.some.inj e)))
theorem own_rtG {w : World} {v : Value} {l : List Int} {B : Nat} (h : Own w 5 v (bc l)) (hb : Byt l) (hf : Fr B v) : RT (From B) w v l := ⟨Own.rd h hb, fun _ k hk => hf k hk⟩
theorem own_rtO {w : World} {v : Value} {l : List Int} (h : Own w 5 v (bc l)) (hb : Byt l) : RT Any w v l := ⟨Own.rd h hb, fun _ _ _ => trivial⟩
theorem cell_iv {w : World} {a : Addr} {v : Value} {t : TypeId} {vo : List Int} {g : Nat} (h : w.cell? a = some v) (hR : Row w g t (iv vo)) (e : a.block = g) : ∃ x, v = .int .i64 x := by
  subst e
  unfold Row at hR
  simp only [World.cell?, hR] at h
  split at h
  · cases h
  · have h : (iv vo)[a.off]? = some v := by simpa using h
    obtain ⟨x, _, rfl⟩ := List.mem_map.1 (List.mem_of_getElem? h)
    exact ⟨x, rfl⟩
theorem RT.neI {G : Nat → Prop} {w : World} {v : Value} {l : List Int} (h : RT G w v l) {g : Nat} {t : TypeId} {vo : List Int} (hR : Row w g t (iv vo)) : RT (fun k => k ≠ g) w v l := by
  refine ⟨h.1, fun hx k hk e => ?_⟩
  obtain ⟨ao, cap, rfl, h1, h2, h3, h4⟩ := h.1.2
  cases ao with
  | none => simp [Value.ownBlock] at hk
  | some a =>
    obtain ⟨x, xs, rfl⟩ := List.exists_cons_of_ne_nil hx
    have h5 := h4 a rfl 0 _ rfl
    have h7 : a.block = k := by simpa [Value.ownBlock] using hk
    obtain ⟨y, hy⟩ := cell_iv h5 hR (by rw [addr_block, h7, e])
    cases hy
theorem and1 (x : Int) : bits .and .i64 x 1 = 0 ∨ bits .and .i64 x 1 = 1 := by
  have h : ∀ b : BitVec 64, (b &&& 1#64) = 0#64 ∨ (b &&& 1#64) = 1#64 := by
    intro b
    have h1 : (b &&& 1#64).toNat = b.toNat % 2 := by
      rw [BitVec.toNat_and]
      exact Nat.and_one_is_mod _
    have h2 : b.toNat % 2 = 0 ∨ b.toNat % 2 = 1 := by omega
    rcases h2 with h2 | h2
    · left
      exact BitVec.eq_of_toNat_eq (by rw [h1, h2]; rfl)
    · right
      exact BitVec.eq_of_toNat_eq (by rw [h1, h2]; rfl)
  have e : bits .and .i64 x 1 = IntKind.i64.wrap (((BitVec.ofInt 64 x &&& 1#64 : BitVec 64).toNat : Nat) : Int) := rfl
  rw [e]
  rcases h (BitVec.ofInt 64 x) with h | h
  · left; rw [h]; decide
  · right; rw [h]; decide
theorem side1 (x : Int) : wrap64 (1 + bits BinOp.and IntKind.i64 x 1) = 1 ∨ wrap64 (1 + bits BinOp.and IntKind.i64 x 1) = 2 := by
  rcases and1 x with h | h
  · left; rw [h]; first | (go_num; done) | (simp [wrap64]; done) | (unfold wrap64; decide) | (unfold wrap64; rfl)
  · right; rw [h]; first | (go_num; done) | (simp [wrap64]; done) | (unfold wrap64; decide) | (unfold wrap64; rfl)
theorem iv_set (l : List Int) (j : Nat) (x : Int) : (iv l).set j (.int .i64 x) = iv (l.set j x) := by simp [iv, List.map_set]
theorem iv_get {l : List Int} {j : Nat} (h : j < l.length) : (iv l)[j]? = some (.int .i64 (l.getD j 0)) := by
  simp [iv, List.getD, List.getElem?_eq_getElem h]
theorem sizI : (Tryd.prog.info? 3).map (·.size) = some 1 := by kernel_rfl
theorem own_addT {n cut s : Int} {tl : PTl} {nb m : Nat} {d : List Int} {v : PVote} {k : Nat} (h : Own1 m (addT n cut tl nb s d v) k) : Own1 m tl k ∨ k = nb := by
  unfold addT at h
  split at h
  · exact put_own h
  · exact .inl h
/-- What stands between two votes. -/
structure OSt (W : World) (g B9 b1 m1 b2 m2 : Nat) (n : Int) (va vb : Value) (w : World) (vo : List Int) (t1 t2 : PTl) : Prop where
  l1 : Tly w b1 m1 n 0 t1
  l2 : Tly w b2 m2 n 0 t2
  dis : ∀ k, Own1 m1 t1 k → ¬ Own1 m2 t2 k
  lo : W.heap.size ≤ g ∧ g < B9 ∧ g < b1 ∧ g < b2
  lo1 : ∀ k, Own1 m1 t1 k → g < k
  lo2 : ∀ k, Own1 m2 t2 k → g < k
  row : Row w g 46 (iv vo)
  len : vo.length = 16
  ra : RT (From B9) w va D0
  rb : RT (From B9) w vb O1
  tab : Tab w
  bel : Below W.heap.size W w
theorem OSt.below {W : World} {g B9 b1 m1 b2 m2 : Nat} {n : Int} {va vb : Value} {w w' : World} {vo : List Int} {t1 t2 : PTl} (h : OSt W g B9 b1 m1 b2 m2 n va vb w vo t1 t2) (hb : Below w.heap.size w w') : OSt W g B9 b1 m1 b2 m2 n va vb w' vo t1 t2 :=
  ⟨h.l1.below hb, h.l2.below hb, h.dis, h.lo, h.lo1, h.lo2, h.row.below hb, h.len, h.ra.mv (fun k hk hlt => ⟨hb.block k hlt, hk⟩), h.rb.mv (fun k hk hlt => ⟨hb.block k hlt, hk⟩), h.tab.below hb, below_and h.bel (Nat.le_refl _) hb⟩
/-- The array turns. -/
theorem OSt.set {W : World} {g B9 b1 m1 b2 m2 : Nat} {n : Int} {va vb : Value} {w w' : World} {vo vo' : List Int} {t1 t2 : PTl} (h : OSt W g B9 b1 m1 b2 m2 n va vb w vo t1 t2) (hR : Row w' g 46 (iv vo')) (hl : vo'.length = 16) (hg : w.grownBy w' (some g)) : OSt W g B9 b1 m1 b2 m2 n va vb w' vo' t1 t2 := by
  obtain ⟨q1, q2, q3, q4⟩ := h.lo
  have hG : Gs (fun k => k = g) w w' := Gs.of hg (.inr rfl)
  have mvT : ∀ {b m : Nat} {tl : PTl}, Tly w b m n 0 tl → g < b → (∀ k, Own1 m tl k → g < k) → Tly w' b m n 0 tl := fun {b m tl} ht hb hk => by
    have hkk : ∀ k, Own1 m tl k → w'.heap[k]? = w.heap[k]? := fun k hk2 => hG.block k (ht.own hk2).2 (fun e => by have := hk k hk2; omega)
    refine ⟨(hG.block b ht.row.lt (fun e => by omega)).trans ht.row, ht.ok, ?_, fun y hy => ?_, ht.dup⟩
    · obtain ⟨es, clock, h3, h4⟩ := ht.map
      exact ⟨es, clock, (hkk m (.inl rfl)).trans h3, h4⟩
    · obtain ⟨l, ⟨es, clock, h3, h4⟩, h2⟩ := ht.ins y hy
      refine ⟨l, ⟨es, clock, (hkk _ (.inr (List.mem_map.2 ⟨y, hy, rfl⟩))).trans h3, h4⟩, h2.mono fun z c hz => ?_⟩
      obtain ⟨e1, sg, e2, e3⟩ := hz
      exact ⟨e1, sg, e2, (e3.neI h.row).mv (fun k hk hlt => ⟨hG.block k hlt hk, trivial⟩)⟩
  exact ⟨mvT h.l1 q3 h.lo1, mvT h.l2 q4 h.lo2, h.dis, h.lo, h.lo1, h.lo2, hR, hl, h.ra.mv (fun k hk hlt => ⟨hG.block k hlt (fun e => by have hk : B9 ≤ k := hk; omega), hk⟩), h.rb.mv (fun k hk hlt => ⟨hG.block k hlt (fun e => by have hk : B9 ≤ k := hk; omega), hk⟩), h.tab.keep (hG.block _ h.tab.pos (fun e => by
    obtain ⟨y, hy⟩ := cell_iv (h.tab 0 (by decide)) h.row e
    cases hy)), h.bel.trans (hG.below h.bel.size (fun k hk => by omega))⟩
/-- A vote of the first side is put in. -/
theorem OSt.add1 {W : World} {g B9 b1 m1 b2 m2 : Nat} {n : Int} {va vb : Value} {w w' : World} {vo : List Int} {t1 t2 : PTl} (h : OSt W g B9 b1 m1 b2 m2 n va vb w vo t1 t2) {t1' : PTl}
    (hl : Tly w' b1 m1 n 0 t1') (hg : Gs (Own1 m1 t1) w w') (ho : ∀ k, Own1 m1 t1' k → Own1 m1 t1 k ∨ w.heap.size ≤ k) : OSt W g B9 b1 m1 b2 m2 n va vb w' vo t1' t2 := by
  have hn : ∀ k, Own1 m1 t1 k → ¬ NMap w k := fun k hk => (h.l1.own hk).1
  have hsz := h.bel.size
  obtain ⟨q1, q2, q3, q4⟩ := h.lo
  have hgl := h.row.lt
  have hrow : ∃ x xs, iv vo = x :: xs := by
    have := h.len
    match vo, this with
    | x :: xs, _ => exact ⟨_, _, rfl⟩
  obtain ⟨x, xs, hx⟩ := hrow
  have hR := h.row
  rw [hx] at hR
  refine ⟨hl, h.l2.mv hg hn (fun k hk => h.dis k hk), fun k hk hk2 => ?_, h.lo, fun k hk => ?_, h.lo2, by rw [hx]; exact row_gs hR hg hn, h.len, ⟨(gs_keep (B := 0) h.l1 hg (h.ra.mv Mv.any)).1, h.ra.2⟩, ⟨(gs_keep (B := 0) h.l1 hg (h.rb.mv Mv.any)).1, h.rb.2⟩, gs_tab h.l1 hg h.tab, h.bel.trans (hg.below hsz (fun k hk => by have := h.lo1 k hk; omega))⟩
  · rcases ho k hk with hk | hk
    · exact h.dis k hk hk2
    · have := (h.l2.own hk2).2
      omega
  · rcases ho k hk with hk | hk
    · exact h.lo1 k hk
    · omega
theorem OSt.add2 {W : World} {g B9 b1 m1 b2 m2 : Nat} {n : Int} {va vb : Value} {w w' : World} {vo : List Int} {t1 t2 : PTl} (h : OSt W g B9 b1 m1 b2 m2 n va vb w vo t1 t2) {t2' : PTl}
    (hl : Tly w' b2 m2 n 0 t2') (hg : Gs (Own1 m2 t2) w w') (ho : ∀ k, Own1 m2 t2' k → Own1 m2 t2 k ∨ w.heap.size ≤ k) : OSt W g B9 b1 m1 b2 m2 n va vb w' vo t1 t2' := by
  have hn : ∀ k, Own1 m2 t2 k → ¬ NMap w k := fun k hk => (h.l2.own hk).1
  have hsz := h.bel.size
  obtain ⟨q1, q2, q3, q4⟩ := h.lo
  have hgl := h.row.lt
  have hrow : ∃ x xs, iv vo = x :: xs := by
    have := h.len
    match vo, this with
    | x :: xs, _ => exact ⟨_, _, rfl⟩
  obtain ⟨x, xs, hx⟩ := hrow
  have hR := h.row
  rw [hx] at hR
  refine ⟨h.l1.mv hg hn (fun k hk hk1 => h.dis k hk1 hk), hl, fun k hk hk2 => ?_, h.lo, h.lo1, fun k hk => ?_, by rw [hx]; exact row_gs hR hg hn, h.len, ⟨(gs_keep (B := 0) h.l2 hg (h.ra.mv Mv.any)).1, h.ra.2⟩, ⟨(gs_keep (B := 0) h.l2 hg (h.rb.mv Mv.any)).1, h.rb.2⟩, gs_tab h.l2 hg h.tab, h.bel.trans (hg.below hsz (fun k hk => by have := h.lo2 k hk; omega))⟩
  · rcases ho k hk2 with hk2 | hk2
    · exact h.dis k hk hk2
    · have := (h.l1.own hk).2
      omega
  · rcases ho k hk with hk | hk
    · exact h.lo2 k hk
    · omega
end
section
open Go.RowKit Oct Stb MI Bal Sha
set_option maxRecDepth 10000 in
set_option maxHeartbeats 4000000 in
theorem stOne_any (W : World) (n : Int) (vv : Value) (ys : List (Int × Int)) (lv : Value) (lr : List Int) (hvs : RL RPr 2 Any W vv ys) (hls : RL RInt 1 Any W lv lr) (hT : Tab W) :
    Calls Tryd.prog 5 #[.int .i64 n, vv, lv] W fun e w' => e = .returned (.bool true) ∧ Below W.heap.size W w' := by
  obtain ⟨aa, ca, rfl, _⟩ := hvs.form
  obtain ⟨al, cl, rfl, _⟩ := hls.form
  have hRT : ∀ u : World, Calls Tryd.prog 15 #[.int .i64 n] u fun e w' => e = .returned (.bool (rgt n)) ∧ w' = u := fun u => Bb.right_any u n
  have hFT : ∀ u : World, Calls Tryd.prog 16 #[.int .i64 n] u fun e w' => e = .returned (.int .i64 (fau n)) ∧ w' = u := fun u => Bb.faults_any u n
  have hzA := zeroO
  have hbA := buildO
  obtain ⟨Z, hZ⟩ : ∃ Z, Z = iZ := ⟨_, rfl⟩
  rw [← hZ] at hzA hbA
  have HZ := (show Hid (Z = iv (List.replicate 16 0)) from hZ.trans iZ_iv)
  have hsz : (Tryd.prog.info? 46).map (·.size) = some Z.length := by rw [HZ.out]; exact sizO
  have hone : ∀ u ∈ Z, u.oneCell' = true := by rw [HZ.out]; exact iv_one _
  have HSZ := (show Hid ((Tryd.prog.info? 46).map (·.size) = some Z.length) from hsz)
  have HON := (show Hid (∀ u ∈ Z, u.oneCell' = true) from hone)
  clear hZ hsz hone
  go_enter Tryd.func5, Tryd.ntmps5
  go_upto_region 3 with (go_at_call 7; refine (stableAlive_any W hT).mono ?_; rintro e w1 ⟨rfl, b1⟩)
  cases hn : rgt n with
  | false =>
    rw [hn] at hRT
    have hR1 := hRT w1
    clear hRT hFT hn
    go_wp2_with (go_at_call 15; refine hR1.mono ?_; rintro e w2 ⟨rfl, hw2⟩; rw [hw2]; clear hw2 w2)
    go_ret
    exact ⟨rfl, b1⟩
  | true =>
  rw [hn] at hRT
  have hR1 := hRT w1
  have hF1 := hFT w1
  clear hRT hFT
  by_cases hf : (lr.length : Int) ≤ fau n
  case neg =>
    have hd1 : decide (fau n < (lr.length : Int)) = true := decide_eq_true (by omega)
    clear hf
    go_wp2_with (first
      | (go_at_call 16; refine hF1.mono ?_; rintro e w3 ⟨rfl, hw3⟩; rw [hw3]; clear hw3 w3)
      | (go_at_call 15; refine hR1.mono ?_; rintro e w2 ⟨rfl, hw2⟩; rw [hw2]; clear hw2 w2))
    go_ret
    exact ⟨rfl, b1⟩
  have hd1 : decide (fau n < (lr.length : Int)) = false := decide_eq_false (by omega)
  by_cases hy : ys.length ≤ 200
  case neg =>
    have hd2 : decide ((200 : Int) < (ys.length : Int)) = true := decide_eq_true (by omega)
    clear hf hy
    go_wp2_with (first
      | (go_at_call 16; refine hF1.mono ?_; rintro e w3 ⟨rfl, hw3⟩; rw [hw3]; clear hw3 w3)
      | (go_at_call 15; refine hR1.mono ?_; rintro e w2 ⟨rfl, hw2⟩; rw [hw2]; clear hw2 w2))
    go_ret
    exact ⟨rfl, b1⟩
  have hd2 : decide ((200 : Int) < (ys.length : Int)) = false := decide_eq_false (by omega)
  go_upto_region 5 with (first
    | (go_at_call 16; refine hF1.mono ?_; rintro e w3 ⟨rfl, hw3⟩; rw [hw3]; clear hw3 w3)
    | (go_at_call 15; refine hR1.mono ?_; rintro e w2 ⟨rfl, hw2⟩; rw [hw2]; clear hw2 w2))
  clear hd1 hd2 hF1 hR1
  go_upto_region 6 with (refine wl_store (by rfl) 46 _ _ (by rfl) w1.heap.size Z (by rfl) (by rfl) 46 Z (heap_alloc_new w1 _) rfl HSZ.out HON.out ?_; intro w2 hr2 hg2)
  rw [HZ.out] at hr2
  have hb2 : Below w1.heap.size w1 w2 := (below_alloc w1 _).trans (grown_below hg2 (by simp) (fun k hk => by cases hk; exact Nat.le_refl _))
  have hT2 := (hT.below b1).below hb2
  have hB2 := below_and b1 (Nat.le_refl _) hb2
  have hgW : W.heap.size ≤ w1.heap.size := b1.size
  obtain ⟨g, hg⟩ : ∃ g, g = w1.heap.size := ⟨_, rfl⟩
  rw [← hg] at hr2 hgW ⊢
  clear hg2 HZ HSZ HON hzA hbA hb2 hg b1 hT
  go_upto_region 9 with (first
    | (go_at_call 8; refine (newT_any w3 n).mono ?_; rintro e w4 ⟨rfl, h4, b4⟩)
    | (go_at_call 8; refine (newT_any w2 n).mono ?_; rintro e w3 ⟨rfl, h3, b3⟩))
  have hm32 := mk32
  have hm31 := mk31
  have hbO := bsO
  have B0 : Below w4.heap.size w4 w4.drew := ⟨rfl, rfl, rfl, Nat.le_refl _, fun _ _ => rfl⟩
  go_cut [10, 11] from 45 to 48 (fun s10 s11 wy => ∃ (xa : Option Addr) (xc : Nat) (xb : Option Addr) (xd : Nat), s10 = .slice xa 32 xc ∧ s11 = .slice xb 32 xd ∧ RT (From w4.heap.size) wy (.slice xa 32 xc) D0 ∧ RT (From w4.heap.size) wy (.slice xb 32 xd) O1 ∧ Below w4.heap.size w4 wy)
  case first =>
    try go_simp
    refine wp_region_held_drew (S := fun _ => True) (by kernel_rfl) trivial (fun hHeld => ?_)
    clear hHeld
    refine wpAnyH_ready (rs := [0, 1, 2]) (by kernel_rfl) (by simp) ?_
    refine AllReadyH.cons (o := _) rfl (fun K hK => ?_) (AllReadyH.cons (o := _) rfl (fun K hK => ?_) (AllReadyH.cons (o := _) rfl (fun K hK => ?_) AllReadyH.nil))
    · skip
      obtain ⟨u30, hu30⟩ : ∃ x, x = World.alloc w4.drew (.cells (bc D0).toArray 5) := ⟨_, rfl⟩
      have Bu30 : Below w4.heap.size w4 u30 := by rw [hu30]; exact below_and B0 (Nat.le_refl _) (below_alloc _ _)
      have oA : Own u30 5 (.slice (some ⟨w4.heap.size, 0, none⟩) 32 32) (bc D0) := by rw [hu30]; exact ownD0 w4.drew
      obtain ⟨kA, hq⟩ : ∃ x, x = w4.heap.size := ⟨_, rfl⟩
      rw [← hq] at oA
      have hka : w4.heap.size ≤ kA := by rw [hq]; exact (B0).size
      go_simp
      first | rw [← hu30] | rw [show (World.alloc w4 (.cells (bc D0).toArray 5)).drew = u30 from by rw [hu30]; rfl]
      rw [← hq]
      refine hK.out _ _ trivial (fun hHeld => ?_)
      clear hK K hHeld hu30 hq
      try simp only [List.getElem_toArray, List.getElem_cons_succ, List.getElem_cons_zero, Act.put, List.setIfInBounds_toArray, List.set_cons_zero, List.set_cons_succ]
      refine wpAnyH_ready (rs := [1, 2]) (by kernel_rfl) (by simp) ?_
      refine AllReadyH.cons (o := _) rfl (fun K hK => ?_) (AllReadyH.cons (o := _) rfl (fun K hK => ?_) AllReadyH.nil)
      · skip
        obtain ⟨u31, hu31⟩ : ∃ x, x = World.alloc u30 (.cells (bc D31).toArray 5) := ⟨_, rfl⟩
        have Bu31 : Below w4.heap.size w4 u31 := by rw [hu31]; exact below_and Bu30 (Nat.le_refl _) (below_alloc _ _)
        have hne : kA ≠ u30.heap.size := by have h1 := own_ltO oA; have h2 : u30.heap.size = u30.heap.size := rfl; omega
        replace oA : Own u31 5 (.slice (some ⟨kA, 0, none⟩) 32 32) (bc D0) := by rw [hu31]; exact oA.below (below_alloc _ _)
        have oM : Own u31 5 (.slice (some ⟨u30.heap.size, 0, none⟩) 31 31) (bc D31) := by rw [hu31]; exact ownD31 u30
        obtain ⟨kM, hq⟩ : ∃ x, x = u30.heap.size := ⟨_, rfl⟩
        rw [← hq] at oM
        rw [← hq] at hne
        have hkM : w4.heap.size ≤ kM := by rw [hq]; exact (Bu30).size
        go_simp
        first | rw [← hu31] | rw [show (World.alloc w4 (.cells (bc D31).toArray 5)).drew = u31 from by rw [hu31]; rfl]
        rw [← hq]
        refine hK.out _ _ trivial (fun hHeld => ?_)
        clear hK K hHeld hu31 hq
        try simp only [List.getElem_toArray, List.getElem_cons_succ, List.getElem_cons_zero, Act.put, List.setIfInBounds_toArray, List.set_cons_zero, List.set_cons_succ]
        refine wpAnyH_ready (rs := [2]) (by kernel_rfl) (by simp) ?_
        refine AllReadyH.cons (o := _) rfl (fun K hK => ?_) AllReadyH.nil
        obtain ⟨u32, hu32⟩ : ∃ x, x = World.alloc u31 (.cells #[.int .u8 1] 5) := ⟨_, rfl⟩
        have Bu32 : Below w4.heap.size w4 u32 := by rw [hu32]; exact below_and Bu31 (Nat.le_refl _) (below_alloc _ _)
        replace oA : Own u32 5 (.slice (some ⟨kA, 0, none⟩) 32 32) (bc D0) := by rw [hu32]; exact oA.below (below_alloc _ _)
        replace oM : Own u32 5 (.slice (some ⟨kM, 0, none⟩) 31 31) (bc D31) := by rw [hu32]; exact oM.below (below_alloc _ _)
        have oL : Own u32 5 (.slice (some ⟨u31.heap.size, 0, none⟩) 1 1) (bc [1]) := by rw [hu32]; exact own_one u31 1 _
        obtain ⟨kL, hq⟩ : ∃ x, x = u31.heap.size := ⟨_, rfl⟩
        rw [← hq] at oL
        go_simp
        first | rw [← hu32] | rw [show (World.alloc w4 (.cells #[.int .u8 1] 5)).drew = u32 from by rw [hu32]; rfl]
        rw [← hq]
        refine hK.out _ _ trivial (fun hHeld => ?_)
        clear hK K hHeld hu32 hq
        try simp only [List.getElem_toArray, List.getElem_cons_succ, List.getElem_cons_zero, Act.put, List.setIfInBounds_toArray, List.set_cons_zero, List.set_cons_succ]
        refine wpAnyH_ready (rs := [3]) (by kernel_rfl) (by simp) ?_
        refine AllReadyH.cons (o := _) rfl (fun K hK => ?_) AllReadyH.nil
        refine step_bytesW (by kernel_rfl) _ _ (by rfl) (.slice (some ⟨kM, 0, none⟩) 31 31) D31 (by rfl) oM (.slice (some ⟨kL, 0, none⟩) 1 1) [1] (by rfl) (own_rtO oL one_byt).1.2 (by decide) ?_
        intro vb u33 happ
        have Bu33 : Below w4.heap.size w4 u33 := (Bu32).trans (happ.below (fr_at _ _ _ _ hkM) (Bu32).size)
        replace oA : Own u33 5 (.slice (some ⟨kA, 0, none⟩) 32 32) (bc D0) := own_keptO oA happ.grown hne
        have hfB : Fr w4.heap.size vb := happ.fr (fr_at _ _ _ _ hkM) (Bu32).size
        have oB : Own u33 5 vb (bc O1) := happ.own
        refine hK.out _ _ trivial (fun hHeld => ?_)
        clear hK K hHeld happ oM oL hkM
        try simp only [List.getElem_toArray, List.getElem_cons_succ, List.getElem_cons_zero, Act.put, List.setIfInBounds_toArray, List.set_cons_zero, List.set_cons_succ]
        obtain ⟨ba, ca9, rfl, _⟩ := (own_rtO oB O1_byt).form
        rw [show O1.length = 32 from rfl] at oB hfB ⊢
        have rA := own_rtG oA D0_byt (fr_at _ _ _ _ hka)
        have rB := own_rtG oB O1_byt hfB
        refine wpAnyH_ready (rs := [4]) (by kernel_rfl) (by simp) ?_
        refine AllReadyH.cons (o := _) rfl (fun K hK => ?_) AllReadyH.nil
        go_simp
        refine hK.out _ _ trivial (fun hHeld => ?_)
        clear hK K hHeld
        try simp only [List.getElem_toArray, List.getElem_cons_succ, List.getElem_cons_zero, Act.put, List.setIfInBounds_toArray, List.set_cons_zero, List.set_cons_succ]
        refine wpAnyH_ready (rs := [5]) (by kernel_rfl) (by simp) ?_
        refine AllReadyH.cons (o := _) rfl (fun K hK => ?_) AllReadyH.nil
        go_simp
        refine hK.out _ _ trivial (fun hHeld => ?_)
        clear hK K hHeld
        try simp only [List.getElem_toArray, List.getElem_cons_succ, List.getElem_cons_zero, Act.put, List.setIfInBounds_toArray, List.set_cons_zero, List.set_cons_succ]
        refine wpAnyH_done (by kernel_rfl) ?_ _
        go_wp2_with fail
        go_meet
        case rel => exact ⟨_, _, _, _, rfl, rfl, rA, rB, Bu33⟩
      · skip
        obtain ⟨u31, hu31⟩ : ∃ x, x = World.alloc u30 (.cells #[.int .u8 1] 5) := ⟨_, rfl⟩
        have Bu31 : Below w4.heap.size w4 u31 := by rw [hu31]; exact below_and Bu30 (Nat.le_refl _) (below_alloc _ _)
        replace oA : Own u31 5 (.slice (some ⟨kA, 0, none⟩) 32 32) (bc D0) := by rw [hu31]; exact oA.below (below_alloc _ _)
        have oL : Own u31 5 (.slice (some ⟨u30.heap.size, 0, none⟩) 1 1) (bc [1]) := by rw [hu31]; exact own_one u30 1 _
        obtain ⟨kL, hq⟩ : ∃ x, x = u30.heap.size := ⟨_, rfl⟩
        rw [← hq] at oL
        go_simp
        first | rw [← hu31] | rw [show (World.alloc w4 (.cells #[.int .u8 1] 5)).drew = u31 from by rw [hu31]; rfl]
        rw [← hq]
        refine hK.out _ _ trivial (fun hHeld => ?_)
        clear hK K hHeld hu31 hq
        try simp only [List.getElem_toArray, List.getElem_cons_succ, List.getElem_cons_zero, Act.put, List.setIfInBounds_toArray, List.set_cons_zero, List.set_cons_succ]
        refine wpAnyH_ready (rs := [1]) (by kernel_rfl) (by simp) ?_
        refine AllReadyH.cons (o := _) rfl (fun K hK => ?_) AllReadyH.nil
        obtain ⟨u32, hu32⟩ : ∃ x, x = World.alloc u31 (.cells (bc D31).toArray 5) := ⟨_, rfl⟩
        have Bu32 : Below w4.heap.size w4 u32 := by rw [hu32]; exact below_and Bu31 (Nat.le_refl _) (below_alloc _ _)
        have hne : kA ≠ u31.heap.size := by have h1 := own_ltO oA; have h2 : u31.heap.size = u31.heap.size := rfl; omega
        replace oA : Own u32 5 (.slice (some ⟨kA, 0, none⟩) 32 32) (bc D0) := by rw [hu32]; exact oA.below (below_alloc _ _)
        replace oL : Own u32 5 (.slice (some ⟨kL, 0, none⟩) 1 1) (bc [1]) := by rw [hu32]; exact oL.below (below_alloc _ _)
        have oM : Own u32 5 (.slice (some ⟨u31.heap.size, 0, none⟩) 31 31) (bc D31) := by rw [hu32]; exact ownD31 u31
        obtain ⟨kM, hq⟩ : ∃ x, x = u31.heap.size := ⟨_, rfl⟩
        rw [← hq] at oM
        rw [← hq] at hne
        have hkM : w4.heap.size ≤ kM := by rw [hq]; exact (Bu31).size
        go_simp
        first | rw [← hu32] | rw [show (World.alloc w4 (.cells (bc D31).toArray 5)).drew = u32 from by rw [hu32]; rfl]
        rw [← hq]
        refine hK.out _ _ trivial (fun hHeld => ?_)
        clear hK K hHeld hu32 hq
        try simp only [List.getElem_toArray, List.getElem_cons_succ, List.getElem_cons_zero, Act.put, List.setIfInBounds_toArray, List.set_cons_zero, List.set_cons_succ]
        refine wpAnyH_ready (rs := [3]) (by kernel_rfl) (by simp) ?_
        refine AllReadyH.cons (o := _) rfl (fun K hK => ?_) AllReadyH.nil
        refine step_bytesW (by kernel_rfl) _ _ (by rfl) (.slice (some ⟨kM, 0, none⟩) 31 31) D31 (by rfl) oM (.slice (some ⟨kL, 0, none⟩) 1 1) [1] (by rfl) (own_rtO oL one_byt).1.2 (by decide) ?_
        intro vb u33 happ
        have Bu33 : Below w4.heap.size w4 u33 := (Bu32).trans (happ.below (fr_at _ _ _ _ hkM) (Bu32).size)
        replace oA : Own u33 5 (.slice (some ⟨kA, 0, none⟩) 32 32) (bc D0) := own_keptO oA happ.grown hne
        have hfB : Fr w4.heap.size vb := happ.fr (fr_at _ _ _ _ hkM) (Bu32).size
        have oB : Own u33 5 vb (bc O1) := happ.own
        refine hK.out _ _ trivial (fun hHeld => ?_)
        clear hK K hHeld happ oM oL hkM
        try simp only [List.getElem_toArray, List.getElem_cons_succ, List.getElem_cons_zero, Act.put, List.setIfInBounds_toArray, List.set_cons_zero, List.set_cons_succ]
        obtain ⟨ba, ca9, rfl, _⟩ := (own_rtO oB O1_byt).form
        rw [show O1.length = 32 from rfl] at oB hfB ⊢
        have rA := own_rtG oA D0_byt (fr_at _ _ _ _ hka)
        have rB := own_rtG oB O1_byt hfB
        refine wpAnyH_ready (rs := [4]) (by kernel_rfl) (by simp) ?_
        refine AllReadyH.cons (o := _) rfl (fun K hK => ?_) AllReadyH.nil
        go_simp
        refine hK.out _ _ trivial (fun hHeld => ?_)
        clear hK K hHeld
        try simp only [List.getElem_toArray, List.getElem_cons_succ, List.getElem_cons_zero, Act.put, List.setIfInBounds_toArray, List.set_cons_zero, List.set_cons_succ]
        refine wpAnyH_ready (rs := [5]) (by kernel_rfl) (by simp) ?_
        refine AllReadyH.cons (o := _) rfl (fun K hK => ?_) AllReadyH.nil
        go_simp
        refine hK.out _ _ trivial (fun hHeld => ?_)
        clear hK K hHeld
        try simp only [List.getElem_toArray, List.getElem_cons_succ, List.getElem_cons_zero, Act.put, List.setIfInBounds_toArray, List.set_cons_zero, List.set_cons_succ]
        refine wpAnyH_done (by kernel_rfl) ?_ _
        go_wp2_with fail
        go_meet
        case rel => exact ⟨_, _, _, _, rfl, rfl, rA, rB, Bu33⟩
    · skip
      obtain ⟨u30, hu30⟩ : ∃ x, x = World.alloc w4.drew (.cells (bc D31).toArray 5) := ⟨_, rfl⟩
      have Bu30 : Below w4.heap.size w4 u30 := by rw [hu30]; exact below_and B0 (Nat.le_refl _) (below_alloc _ _)
      have oM : Own u30 5 (.slice (some ⟨w4.heap.size, 0, none⟩) 31 31) (bc D31) := by rw [hu30]; exact ownD31 w4.drew
      obtain ⟨kM, hq⟩ : ∃ x, x = w4.heap.size := ⟨_, rfl⟩
      rw [← hq] at oM
      have hkM : w4.heap.size ≤ kM := by rw [hq]; exact (B0).size
      go_simp
      first | rw [← hu30] | rw [show (World.alloc w4 (.cells (bc D31).toArray 5)).drew = u30 from by rw [hu30]; rfl]
      rw [← hq]
      refine hK.out _ _ trivial (fun hHeld => ?_)
      clear hK K hHeld hu30 hq
      try simp only [List.getElem_toArray, List.getElem_cons_succ, List.getElem_cons_zero, Act.put, List.setIfInBounds_toArray, List.set_cons_zero, List.set_cons_succ]
      refine wpAnyH_ready (rs := [0, 2]) (by kernel_rfl) (by simp) ?_
      refine AllReadyH.cons (o := _) rfl (fun K hK => ?_) (AllReadyH.cons (o := _) rfl (fun K hK => ?_) AllReadyH.nil)
      · skip
        obtain ⟨u31, hu31⟩ : ∃ x, x = World.alloc u30 (.cells (bc D0).toArray 5) := ⟨_, rfl⟩
        have Bu31 : Below w4.heap.size w4 u31 := by rw [hu31]; exact below_and Bu30 (Nat.le_refl _) (below_alloc _ _)
        have hne : u30.heap.size ≠ kM := by have h1 := own_ltO oM; have h2 : u30.heap.size = u30.heap.size := rfl; omega
        replace oM : Own u31 5 (.slice (some ⟨kM, 0, none⟩) 31 31) (bc D31) := by rw [hu31]; exact oM.below (below_alloc _ _)
        have oA : Own u31 5 (.slice (some ⟨u30.heap.size, 0, none⟩) 32 32) (bc D0) := by rw [hu31]; exact ownD0 u30
        obtain ⟨kA, hq⟩ : ∃ x, x = u30.heap.size := ⟨_, rfl⟩
        rw [← hq] at oA
        rw [← hq] at hne
        have hka : w4.heap.size ≤ kA := by rw [hq]; exact (Bu30).size
        go_simp
        first | rw [← hu31] | rw [show (World.alloc w4 (.cells (bc D0).toArray 5)).drew = u31 from by rw [hu31]; rfl]
        rw [← hq]
        refine hK.out _ _ trivial (fun hHeld => ?_)
        clear hK K hHeld hu31 hq
        try simp only [List.getElem_toArray, List.getElem_cons_succ, List.getElem_cons_zero, Act.put, List.setIfInBounds_toArray, List.set_cons_zero, List.set_cons_succ]
        refine wpAnyH_ready (rs := [2]) (by kernel_rfl) (by simp) ?_
        refine AllReadyH.cons (o := _) rfl (fun K hK => ?_) AllReadyH.nil
        obtain ⟨u32, hu32⟩ : ∃ x, x = World.alloc u31 (.cells #[.int .u8 1] 5) := ⟨_, rfl⟩
        have Bu32 : Below w4.heap.size w4 u32 := by rw [hu32]; exact below_and Bu31 (Nat.le_refl _) (below_alloc _ _)
        replace oM : Own u32 5 (.slice (some ⟨kM, 0, none⟩) 31 31) (bc D31) := by rw [hu32]; exact oM.below (below_alloc _ _)
        replace oA : Own u32 5 (.slice (some ⟨kA, 0, none⟩) 32 32) (bc D0) := by rw [hu32]; exact oA.below (below_alloc _ _)
        have oL : Own u32 5 (.slice (some ⟨u31.heap.size, 0, none⟩) 1 1) (bc [1]) := by rw [hu32]; exact own_one u31 1 _
        obtain ⟨kL, hq⟩ : ∃ x, x = u31.heap.size := ⟨_, rfl⟩
        rw [← hq] at oL
        go_simp
        first | rw [← hu32] | rw [show (World.alloc w4 (.cells #[.int .u8 1] 5)).drew = u32 from by rw [hu32]; rfl]
        rw [← hq]
        refine hK.out _ _ trivial (fun hHeld => ?_)
        clear hK K hHeld hu32 hq
        try simp only [List.getElem_toArray, List.getElem_cons_succ, List.getElem_cons_zero, Act.put, List.setIfInBounds_toArray, List.set_cons_zero, List.set_cons_succ]
        refine wpAnyH_ready (rs := [3]) (by kernel_rfl) (by simp) ?_
        refine AllReadyH.cons (o := _) rfl (fun K hK => ?_) AllReadyH.nil
        refine step_bytesW (by kernel_rfl) _ _ (by rfl) (.slice (some ⟨kM, 0, none⟩) 31 31) D31 (by rfl) oM (.slice (some ⟨kL, 0, none⟩) 1 1) [1] (by rfl) (own_rtO oL one_byt).1.2 (by decide) ?_
        intro vb u33 happ
        have Bu33 : Below w4.heap.size w4 u33 := (Bu32).trans (happ.below (fr_at _ _ _ _ hkM) (Bu32).size)
        replace oA : Own u33 5 (.slice (some ⟨kA, 0, none⟩) 32 32) (bc D0) := own_keptO oA happ.grown hne
        have hfB : Fr w4.heap.size vb := happ.fr (fr_at _ _ _ _ hkM) (Bu32).size
        have oB : Own u33 5 vb (bc O1) := happ.own
        refine hK.out _ _ trivial (fun hHeld => ?_)
        clear hK K hHeld happ oM oL hkM
        try simp only [List.getElem_toArray, List.getElem_cons_succ, List.getElem_cons_zero, Act.put, List.setIfInBounds_toArray, List.set_cons_zero, List.set_cons_succ]
        obtain ⟨ba, ca9, rfl, _⟩ := (own_rtO oB O1_byt).form
        rw [show O1.length = 32 from rfl] at oB hfB ⊢
        have rA := own_rtG oA D0_byt (fr_at _ _ _ _ hka)
        have rB := own_rtG oB O1_byt hfB
        refine wpAnyH_ready (rs := [4]) (by kernel_rfl) (by simp) ?_
        refine AllReadyH.cons (o := _) rfl (fun K hK => ?_) AllReadyH.nil
        go_simp
        refine hK.out _ _ trivial (fun hHeld => ?_)
        clear hK K hHeld
        try simp only [List.getElem_toArray, List.getElem_cons_succ, List.getElem_cons_zero, Act.put, List.setIfInBounds_toArray, List.set_cons_zero, List.set_cons_succ]
        refine wpAnyH_ready (rs := [5]) (by kernel_rfl) (by simp) ?_
        refine AllReadyH.cons (o := _) rfl (fun K hK => ?_) AllReadyH.nil
        go_simp
        refine hK.out _ _ trivial (fun hHeld => ?_)
        clear hK K hHeld
        try simp only [List.getElem_toArray, List.getElem_cons_succ, List.getElem_cons_zero, Act.put, List.setIfInBounds_toArray, List.set_cons_zero, List.set_cons_succ]
        refine wpAnyH_done (by kernel_rfl) ?_ _
        go_wp2_with fail
        go_meet
        case rel => exact ⟨_, _, _, _, rfl, rfl, rA, rB, Bu33⟩
      · skip
        obtain ⟨u31, hu31⟩ : ∃ x, x = World.alloc u30 (.cells #[.int .u8 1] 5) := ⟨_, rfl⟩
        have Bu31 : Below w4.heap.size w4 u31 := by rw [hu31]; exact below_and Bu30 (Nat.le_refl _) (below_alloc _ _)
        replace oM : Own u31 5 (.slice (some ⟨kM, 0, none⟩) 31 31) (bc D31) := by rw [hu31]; exact oM.below (below_alloc _ _)
        have oL : Own u31 5 (.slice (some ⟨u30.heap.size, 0, none⟩) 1 1) (bc [1]) := by rw [hu31]; exact own_one u30 1 _
        obtain ⟨kL, hq⟩ : ∃ x, x = u30.heap.size := ⟨_, rfl⟩
        rw [← hq] at oL
        go_simp
        first | rw [← hu31] | rw [show (World.alloc w4 (.cells #[.int .u8 1] 5)).drew = u31 from by rw [hu31]; rfl]
        rw [← hq]
        refine hK.out _ _ trivial (fun hHeld => ?_)
        clear hK K hHeld hu31 hq
        try simp only [List.getElem_toArray, List.getElem_cons_succ, List.getElem_cons_zero, Act.put, List.setIfInBounds_toArray, List.set_cons_zero, List.set_cons_succ]
        refine wpAnyH_ready (rs := [0, 3]) (by kernel_rfl) (by simp) ?_
        refine AllReadyH.cons (o := _) rfl (fun K hK => ?_) (AllReadyH.cons (o := _) rfl (fun K hK => ?_) AllReadyH.nil)
        · skip
          obtain ⟨u32, hu32⟩ : ∃ x, x = World.alloc u31 (.cells (bc D0).toArray 5) := ⟨_, rfl⟩
          have Bu32 : Below w4.heap.size w4 u32 := by rw [hu32]; exact below_and Bu31 (Nat.le_refl _) (below_alloc _ _)
          have hne : u31.heap.size ≠ kM := by have h1 := own_ltO oM; have h2 : u31.heap.size = u31.heap.size := rfl; omega
          replace oM : Own u32 5 (.slice (some ⟨kM, 0, none⟩) 31 31) (bc D31) := by rw [hu32]; exact oM.below (below_alloc _ _)
          replace oL : Own u32 5 (.slice (some ⟨kL, 0, none⟩) 1 1) (bc [1]) := by rw [hu32]; exact oL.below (below_alloc _ _)
          have oA : Own u32 5 (.slice (some ⟨u31.heap.size, 0, none⟩) 32 32) (bc D0) := by rw [hu32]; exact ownD0 u31
          obtain ⟨kA, hq⟩ : ∃ x, x = u31.heap.size := ⟨_, rfl⟩
          rw [← hq] at oA
          rw [← hq] at hne
          have hka : w4.heap.size ≤ kA := by rw [hq]; exact (Bu31).size
          go_simp
          first | rw [← hu32] | rw [show (World.alloc w4 (.cells (bc D0).toArray 5)).drew = u32 from by rw [hu32]; rfl]
          rw [← hq]
          refine hK.out _ _ trivial (fun hHeld => ?_)
          clear hK K hHeld hu32 hq
          try simp only [List.getElem_toArray, List.getElem_cons_succ, List.getElem_cons_zero, Act.put, List.setIfInBounds_toArray, List.set_cons_zero, List.set_cons_succ]
          refine wpAnyH_ready (rs := [3]) (by kernel_rfl) (by simp) ?_
          refine AllReadyH.cons (o := _) rfl (fun K hK => ?_) AllReadyH.nil
          refine step_bytesW (by kernel_rfl) _ _ (by rfl) (.slice (some ⟨kM, 0, none⟩) 31 31) D31 (by rfl) oM (.slice (some ⟨kL, 0, none⟩) 1 1) [1] (by rfl) (own_rtO oL one_byt).1.2 (by decide) ?_
          intro vb u33 happ
          have Bu33 : Below w4.heap.size w4 u33 := (Bu32).trans (happ.below (fr_at _ _ _ _ hkM) (Bu32).size)
          replace oA : Own u33 5 (.slice (some ⟨kA, 0, none⟩) 32 32) (bc D0) := own_keptO oA happ.grown hne
          have hfB : Fr w4.heap.size vb := happ.fr (fr_at _ _ _ _ hkM) (Bu32).size
          have oB : Own u33 5 vb (bc O1) := happ.own
          refine hK.out _ _ trivial (fun hHeld => ?_)
          clear hK K hHeld happ oM oL hkM
          try simp only [List.getElem_toArray, List.getElem_cons_succ, List.getElem_cons_zero, Act.put, List.setIfInBounds_toArray, List.set_cons_zero, List.set_cons_succ]
          obtain ⟨ba, ca9, rfl, _⟩ := (own_rtO oB O1_byt).form
          rw [show O1.length = 32 from rfl] at oB hfB ⊢
          have rA := own_rtG oA D0_byt (fr_at _ _ _ _ hka)
          have rB := own_rtG oB O1_byt hfB
          refine wpAnyH_ready (rs := [4]) (by kernel_rfl) (by simp) ?_
          refine AllReadyH.cons (o := _) rfl (fun K hK => ?_) AllReadyH.nil
          go_simp
          refine hK.out _ _ trivial (fun hHeld => ?_)
          clear hK K hHeld
          try simp only [List.getElem_toArray, List.getElem_cons_succ, List.getElem_cons_zero, Act.put, List.setIfInBounds_toArray, List.set_cons_zero, List.set_cons_succ]
          refine wpAnyH_ready (rs := [5]) (by kernel_rfl) (by simp) ?_
          refine AllReadyH.cons (o := _) rfl (fun K hK => ?_) AllReadyH.nil
          go_simp
          refine hK.out _ _ trivial (fun hHeld => ?_)
          clear hK K hHeld
          try simp only [List.getElem_toArray, List.getElem_cons_succ, List.getElem_cons_zero, Act.put, List.setIfInBounds_toArray, List.set_cons_zero, List.set_cons_succ]
          refine wpAnyH_done (by kernel_rfl) ?_ _
          go_wp2_with fail
          go_meet
          case rel => exact ⟨_, _, _, _, rfl, rfl, rA, rB, Bu33⟩
        · skip
          refine step_bytesW (by kernel_rfl) _ _ (by rfl) (.slice (some ⟨kM, 0, none⟩) 31 31) D31 (by rfl) oM (.slice (some ⟨kL, 0, none⟩) 1 1) [1] (by rfl) (own_rtO oL one_byt).1.2 (by decide) ?_
          intro vb u32 happ
          have Bu32 : Below w4.heap.size w4 u32 := (Bu31).trans (happ.below (fr_at _ _ _ _ hkM) (Bu31).size)
          have hfB : Fr w4.heap.size vb := happ.fr (fr_at _ _ _ _ hkM) (Bu31).size
          have oB : Own u32 5 vb (bc O1) := happ.own
          refine hK.out _ _ trivial (fun hHeld => ?_)
          clear hK K hHeld happ oM oL hkM
          try simp only [List.getElem_toArray, List.getElem_cons_succ, List.getElem_cons_zero, Act.put, List.setIfInBounds_toArray, List.set_cons_zero, List.set_cons_succ]
          refine wpAnyH_ready (rs := [0]) (by kernel_rfl) (by simp) ?_
          refine AllReadyH.cons (o := _) rfl (fun K hK => ?_) AllReadyH.nil
          obtain ⟨u33, hu33⟩ : ∃ x, x = World.alloc u32 (.cells (bc D0).toArray 5) := ⟨_, rfl⟩
          have Bu33 : Below w4.heap.size w4 u33 := by rw [hu33]; exact below_and Bu32 (Nat.le_refl _) (below_alloc _ _)
          replace oB : Own u33 5 vb (bc O1) := by rw [hu33]; exact oB.below (below_alloc _ _)
          have oA : Own u33 5 (.slice (some ⟨u32.heap.size, 0, none⟩) 32 32) (bc D0) := by rw [hu33]; exact ownD0 u32
          obtain ⟨kA, hq⟩ : ∃ x, x = u32.heap.size := ⟨_, rfl⟩
          rw [← hq] at oA
          have hka : w4.heap.size ≤ kA := by rw [hq]; exact (Bu32).size
          go_simp
          first | rw [← hu33] | rw [show (World.alloc w4 (.cells (bc D0).toArray 5)).drew = u33 from by rw [hu33]; rfl]
          rw [← hq]
          refine hK.out _ _ trivial (fun hHeld => ?_)
          clear hK K hHeld hu33 hq
          try simp only [List.getElem_toArray, List.getElem_cons_succ, List.getElem_cons_zero, Act.put, List.setIfInBounds_toArray, List.set_cons_zero, List.set_cons_succ]
          obtain ⟨ba, ca9, rfl, _⟩ := (own_rtO oB O1_byt).form
          rw [show O1.length = 32 from rfl] at oB hfB ⊢
          have rA := own_rtG oA D0_byt (fr_at _ _ _ _ hka)
          have rB := own_rtG oB O1_byt hfB
          refine wpAnyH_ready (rs := [4]) (by kernel_rfl) (by simp) ?_
          refine AllReadyH.cons (o := _) rfl (fun K hK => ?_) AllReadyH.nil
          go_simp
          refine hK.out _ _ trivial (fun hHeld => ?_)
          clear hK K hHeld
          try simp only [List.getElem_toArray, List.getElem_cons_succ, List.getElem_cons_zero, Act.put, List.setIfInBounds_toArray, List.set_cons_zero, List.set_cons_succ]
          refine wpAnyH_ready (rs := [5]) (by kernel_rfl) (by simp) ?_
          refine AllReadyH.cons (o := _) rfl (fun K hK => ?_) AllReadyH.nil
          go_simp
          refine hK.out _ _ trivial (fun hHeld => ?_)
          clear hK K hHeld
          try simp only [List.getElem_toArray, List.getElem_cons_succ, List.getElem_cons_zero, Act.put, List.setIfInBounds_toArray, List.set_cons_zero, List.set_cons_succ]
          refine wpAnyH_done (by kernel_rfl) ?_ _
          go_wp2_with fail
          go_meet
          case rel => exact ⟨_, _, _, _, rfl, rfl, rA, rB, Bu33⟩
    · skip
      obtain ⟨u30, hu30⟩ : ∃ x, x = World.alloc w4.drew (.cells #[.int .u8 1] 5) := ⟨_, rfl⟩
      have Bu30 : Below w4.heap.size w4 u30 := by rw [hu30]; exact below_and B0 (Nat.le_refl _) (below_alloc _ _)
      have oL : Own u30 5 (.slice (some ⟨w4.heap.size, 0, none⟩) 1 1) (bc [1]) := by rw [hu30]; exact own_one w4.drew 1 _
      obtain ⟨kL, hq⟩ : ∃ x, x = w4.heap.size := ⟨_, rfl⟩
      rw [← hq] at oL
      go_simp
      first | rw [← hu30] | rw [show (World.alloc w4 (.cells #[.int .u8 1] 5)).drew = u30 from by rw [hu30]; rfl]
      rw [← hq]
      refine hK.out _ _ trivial (fun hHeld => ?_)
      clear hK K hHeld hu30 hq
      try simp only [List.getElem_toArray, List.getElem_cons_succ, List.getElem_cons_zero, Act.put, List.setIfInBounds_toArray, List.set_cons_zero, List.set_cons_succ]
      refine wpAnyH_ready (rs := [0, 1]) (by kernel_rfl) (by simp) ?_
      refine AllReadyH.cons (o := _) rfl (fun K hK => ?_) (AllReadyH.cons (o := _) rfl (fun K hK => ?_) AllReadyH.nil)
      · skip
        obtain ⟨u31, hu31⟩ : ∃ x, x = World.alloc u30 (.cells (bc D0).toArray 5) := ⟨_, rfl⟩
        have Bu31 : Below w4.heap.size w4 u31 := by rw [hu31]; exact below_and Bu30 (Nat.le_refl _) (below_alloc _ _)
        replace oL : Own u31 5 (.slice (some ⟨kL, 0, none⟩) 1 1) (bc [1]) := by rw [hu31]; exact oL.below (below_alloc _ _)
        have oA : Own u31 5 (.slice (some ⟨u30.heap.size, 0, none⟩) 32 32) (bc D0) := by rw [hu31]; exact ownD0 u30
        obtain ⟨kA, hq⟩ : ∃ x, x = u30.heap.size := ⟨_, rfl⟩
        rw [← hq] at oA
        have hka : w4.heap.size ≤ kA := by rw [hq]; exact (Bu30).size
        go_simp
        first | rw [← hu31] | rw [show (World.alloc w4 (.cells (bc D0).toArray 5)).drew = u31 from by rw [hu31]; rfl]
        rw [← hq]
        refine hK.out _ _ trivial (fun hHeld => ?_)
        clear hK K hHeld hu31 hq
        try simp only [List.getElem_toArray, List.getElem_cons_succ, List.getElem_cons_zero, Act.put, List.setIfInBounds_toArray, List.set_cons_zero, List.set_cons_succ]
        refine wpAnyH_ready (rs := [1]) (by kernel_rfl) (by simp) ?_
        refine AllReadyH.cons (o := _) rfl (fun K hK => ?_) AllReadyH.nil
        obtain ⟨u32, hu32⟩ : ∃ x, x = World.alloc u31 (.cells (bc D31).toArray 5) := ⟨_, rfl⟩
        have Bu32 : Below w4.heap.size w4 u32 := by rw [hu32]; exact below_and Bu31 (Nat.le_refl _) (below_alloc _ _)
        replace oL : Own u32 5 (.slice (some ⟨kL, 0, none⟩) 1 1) (bc [1]) := by rw [hu32]; exact oL.below (below_alloc _ _)
        have hne : kA ≠ u31.heap.size := by have h1 := own_ltO oA; have h2 : u31.heap.size = u31.heap.size := rfl; omega
        replace oA : Own u32 5 (.slice (some ⟨kA, 0, none⟩) 32 32) (bc D0) := by rw [hu32]; exact oA.below (below_alloc _ _)
        have oM : Own u32 5 (.slice (some ⟨u31.heap.size, 0, none⟩) 31 31) (bc D31) := by rw [hu32]; exact ownD31 u31
        obtain ⟨kM, hq⟩ : ∃ x, x = u31.heap.size := ⟨_, rfl⟩
        rw [← hq] at oM
        rw [← hq] at hne
        have hkM : w4.heap.size ≤ kM := by rw [hq]; exact (Bu31).size
        go_simp
        first | rw [← hu32] | rw [show (World.alloc w4 (.cells (bc D31).toArray 5)).drew = u32 from by rw [hu32]; rfl]
        rw [← hq]
        refine hK.out _ _ trivial (fun hHeld => ?_)
        clear hK K hHeld hu32 hq
        try simp only [List.getElem_toArray, List.getElem_cons_succ, List.getElem_cons_zero, Act.put, List.setIfInBounds_toArray, List.set_cons_zero, List.set_cons_succ]
        refine wpAnyH_ready (rs := [3]) (by kernel_rfl) (by simp) ?_
        refine AllReadyH.cons (o := _) rfl (fun K hK => ?_) AllReadyH.nil
        refine step_bytesW (by kernel_rfl) _ _ (by rfl) (.slice (some ⟨kM, 0, none⟩) 31 31) D31 (by rfl) oM (.slice (some ⟨kL, 0, none⟩) 1 1) [1] (by rfl) (own_rtO oL one_byt).1.2 (by decide) ?_
        intro vb u33 happ
        have Bu33 : Below w4.heap.size w4 u33 := (Bu32).trans (happ.below (fr_at _ _ _ _ hkM) (Bu32).size)
        replace oA : Own u33 5 (.slice (some ⟨kA, 0, none⟩) 32 32) (bc D0) := own_keptO oA happ.grown hne
        have hfB : Fr w4.heap.size vb := happ.fr (fr_at _ _ _ _ hkM) (Bu32).size
        have oB : Own u33 5 vb (bc O1) := happ.own
        refine hK.out _ _ trivial (fun hHeld => ?_)
        clear hK K hHeld happ oM oL hkM
        try simp only [List.getElem_toArray, List.getElem_cons_succ, List.getElem_cons_zero, Act.put, List.setIfInBounds_toArray, List.set_cons_zero, List.set_cons_succ]
        obtain ⟨ba, ca9, rfl, _⟩ := (own_rtO oB O1_byt).form
        rw [show O1.length = 32 from rfl] at oB hfB ⊢
        have rA := own_rtG oA D0_byt (fr_at _ _ _ _ hka)
        have rB := own_rtG oB O1_byt hfB
        refine wpAnyH_ready (rs := [4]) (by kernel_rfl) (by simp) ?_
        refine AllReadyH.cons (o := _) rfl (fun K hK => ?_) AllReadyH.nil
        go_simp
        refine hK.out _ _ trivial (fun hHeld => ?_)
        clear hK K hHeld
        try simp only [List.getElem_toArray, List.getElem_cons_succ, List.getElem_cons_zero, Act.put, List.setIfInBounds_toArray, List.set_cons_zero, List.set_cons_succ]
        refine wpAnyH_ready (rs := [5]) (by kernel_rfl) (by simp) ?_
        refine AllReadyH.cons (o := _) rfl (fun K hK => ?_) AllReadyH.nil
        go_simp
        refine hK.out _ _ trivial (fun hHeld => ?_)
        clear hK K hHeld
        try simp only [List.getElem_toArray, List.getElem_cons_succ, List.getElem_cons_zero, Act.put, List.setIfInBounds_toArray, List.set_cons_zero, List.set_cons_succ]
        refine wpAnyH_done (by kernel_rfl) ?_ _
        go_wp2_with fail
        go_meet
        case rel => exact ⟨_, _, _, _, rfl, rfl, rA, rB, Bu33⟩
      · skip
        obtain ⟨u31, hu31⟩ : ∃ x, x = World.alloc u30 (.cells (bc D31).toArray 5) := ⟨_, rfl⟩
        have Bu31 : Below w4.heap.size w4 u31 := by rw [hu31]; exact below_and Bu30 (Nat.le_refl _) (below_alloc _ _)
        replace oL : Own u31 5 (.slice (some ⟨kL, 0, none⟩) 1 1) (bc [1]) := by rw [hu31]; exact oL.below (below_alloc _ _)
        have oM : Own u31 5 (.slice (some ⟨u30.heap.size, 0, none⟩) 31 31) (bc D31) := by rw [hu31]; exact ownD31 u30
        obtain ⟨kM, hq⟩ : ∃ x, x = u30.heap.size := ⟨_, rfl⟩
        rw [← hq] at oM
        have hkM : w4.heap.size ≤ kM := by rw [hq]; exact (Bu30).size
        go_simp
        first | rw [← hu31] | rw [show (World.alloc w4 (.cells (bc D31).toArray 5)).drew = u31 from by rw [hu31]; rfl]
        rw [← hq]
        refine hK.out _ _ trivial (fun hHeld => ?_)
        clear hK K hHeld hu31 hq
        try simp only [List.getElem_toArray, List.getElem_cons_succ, List.getElem_cons_zero, Act.put, List.setIfInBounds_toArray, List.set_cons_zero, List.set_cons_succ]
        refine wpAnyH_ready (rs := [0, 3]) (by kernel_rfl) (by simp) ?_
        refine AllReadyH.cons (o := _) rfl (fun K hK => ?_) (AllReadyH.cons (o := _) rfl (fun K hK => ?_) AllReadyH.nil)
        · skip
          obtain ⟨u32, hu32⟩ : ∃ x, x = World.alloc u31 (.cells (bc D0).toArray 5) := ⟨_, rfl⟩
          have Bu32 : Below w4.heap.size w4 u32 := by rw [hu32]; exact below_and Bu31 (Nat.le_refl _) (below_alloc _ _)
          replace oL : Own u32 5 (.slice (some ⟨kL, 0, none⟩) 1 1) (bc [1]) := by rw [hu32]; exact oL.below (below_alloc _ _)
          have hne : u31.heap.size ≠ kM := by have h1 := own_ltO oM; have h2 : u31.heap.size = u31.heap.size := rfl; omega
          replace oM : Own u32 5 (.slice (some ⟨kM, 0, none⟩) 31 31) (bc D31) := by rw [hu32]; exact oM.below (below_alloc _ _)
          have oA : Own u32 5 (.slice (some ⟨u31.heap.size, 0, none⟩) 32 32) (bc D0) := by rw [hu32]; exact ownD0 u31
          obtain ⟨kA, hq⟩ : ∃ x, x = u31.heap.size := ⟨_, rfl⟩
          rw [← hq] at oA
          rw [← hq] at hne
          have hka : w4.heap.size ≤ kA := by rw [hq]; exact (Bu31).size
          go_simp
          first | rw [← hu32] | rw [show (World.alloc w4 (.cells (bc D0).toArray 5)).drew = u32 from by rw [hu32]; rfl]
          rw [← hq]
          refine hK.out _ _ trivial (fun hHeld => ?_)
          clear hK K hHeld hu32 hq
          try simp only [List.getElem_toArray, List.getElem_cons_succ, List.getElem_cons_zero, Act.put, List.setIfInBounds_toArray, List.set_cons_zero, List.set_cons_succ]
          refine wpAnyH_ready (rs := [3]) (by kernel_rfl) (by simp) ?_
          refine AllReadyH.cons (o := _) rfl (fun K hK => ?_) AllReadyH.nil
          refine step_bytesW (by kernel_rfl) _ _ (by rfl) (.slice (some ⟨kM, 0, none⟩) 31 31) D31 (by rfl) oM (.slice (some ⟨kL, 0, none⟩) 1 1) [1] (by rfl) (own_rtO oL one_byt).1.2 (by decide) ?_
          intro vb u33 happ
          have Bu33 : Below w4.heap.size w4 u33 := (Bu32).trans (happ.below (fr_at _ _ _ _ hkM) (Bu32).size)
          replace oA : Own u33 5 (.slice (some ⟨kA, 0, none⟩) 32 32) (bc D0) := own_keptO oA happ.grown hne
          have hfB : Fr w4.heap.size vb := happ.fr (fr_at _ _ _ _ hkM) (Bu32).size
          have oB : Own u33 5 vb (bc O1) := happ.own
          refine hK.out _ _ trivial (fun hHeld => ?_)
          clear hK K hHeld happ oM oL hkM
          try simp only [List.getElem_toArray, List.getElem_cons_succ, List.getElem_cons_zero, Act.put, List.setIfInBounds_toArray, List.set_cons_zero, List.set_cons_succ]
          obtain ⟨ba, ca9, rfl, _⟩ := (own_rtO oB O1_byt).form
          rw [show O1.length = 32 from rfl] at oB hfB ⊢
          have rA := own_rtG oA D0_byt (fr_at _ _ _ _ hka)
          have rB := own_rtG oB O1_byt hfB
          refine wpAnyH_ready (rs := [4]) (by kernel_rfl) (by simp) ?_
          refine AllReadyH.cons (o := _) rfl (fun K hK => ?_) AllReadyH.nil
          go_simp
          refine hK.out _ _ trivial (fun hHeld => ?_)
          clear hK K hHeld
          try simp only [List.getElem_toArray, List.getElem_cons_succ, List.getElem_cons_zero, Act.put, List.setIfInBounds_toArray, List.set_cons_zero, List.set_cons_succ]
          refine wpAnyH_ready (rs := [5]) (by kernel_rfl) (by simp) ?_
          refine AllReadyH.cons (o := _) rfl (fun K hK => ?_) AllReadyH.nil
          go_simp
          refine hK.out _ _ trivial (fun hHeld => ?_)
          clear hK K hHeld
          try simp only [List.getElem_toArray, List.getElem_cons_succ, List.getElem_cons_zero, Act.put, List.setIfInBounds_toArray, List.set_cons_zero, List.set_cons_succ]
          refine wpAnyH_done (by kernel_rfl) ?_ _
          go_wp2_with fail
          go_meet
          case rel => exact ⟨_, _, _, _, rfl, rfl, rA, rB, Bu33⟩
        · skip
          refine step_bytesW (by kernel_rfl) _ _ (by rfl) (.slice (some ⟨kM, 0, none⟩) 31 31) D31 (by rfl) oM (.slice (some ⟨kL, 0, none⟩) 1 1) [1] (by rfl) (own_rtO oL one_byt).1.2 (by decide) ?_
          intro vb u32 happ
          have Bu32 : Below w4.heap.size w4 u32 := (Bu31).trans (happ.below (fr_at _ _ _ _ hkM) (Bu31).size)
          have hfB : Fr w4.heap.size vb := happ.fr (fr_at _ _ _ _ hkM) (Bu31).size
          have oB : Own u32 5 vb (bc O1) := happ.own
          refine hK.out _ _ trivial (fun hHeld => ?_)
          clear hK K hHeld happ oM oL hkM
          try simp only [List.getElem_toArray, List.getElem_cons_succ, List.getElem_cons_zero, Act.put, List.setIfInBounds_toArray, List.set_cons_zero, List.set_cons_succ]
          refine wpAnyH_ready (rs := [0]) (by kernel_rfl) (by simp) ?_
          refine AllReadyH.cons (o := _) rfl (fun K hK => ?_) AllReadyH.nil
          obtain ⟨u33, hu33⟩ : ∃ x, x = World.alloc u32 (.cells (bc D0).toArray 5) := ⟨_, rfl⟩
          have Bu33 : Below w4.heap.size w4 u33 := by rw [hu33]; exact below_and Bu32 (Nat.le_refl _) (below_alloc _ _)
          replace oB : Own u33 5 vb (bc O1) := by rw [hu33]; exact oB.below (below_alloc _ _)
          have oA : Own u33 5 (.slice (some ⟨u32.heap.size, 0, none⟩) 32 32) (bc D0) := by rw [hu33]; exact ownD0 u32
          obtain ⟨kA, hq⟩ : ∃ x, x = u32.heap.size := ⟨_, rfl⟩
          rw [← hq] at oA
          have hka : w4.heap.size ≤ kA := by rw [hq]; exact (Bu32).size
          go_simp
          first | rw [← hu33] | rw [show (World.alloc w4 (.cells (bc D0).toArray 5)).drew = u33 from by rw [hu33]; rfl]
          rw [← hq]
          refine hK.out _ _ trivial (fun hHeld => ?_)
          clear hK K hHeld hu33 hq
          try simp only [List.getElem_toArray, List.getElem_cons_succ, List.getElem_cons_zero, Act.put, List.setIfInBounds_toArray, List.set_cons_zero, List.set_cons_succ]
          obtain ⟨ba, ca9, rfl, _⟩ := (own_rtO oB O1_byt).form
          rw [show O1.length = 32 from rfl] at oB hfB ⊢
          have rA := own_rtG oA D0_byt (fr_at _ _ _ _ hka)
          have rB := own_rtG oB O1_byt hfB
          refine wpAnyH_ready (rs := [4]) (by kernel_rfl) (by simp) ?_
          refine AllReadyH.cons (o := _) rfl (fun K hK => ?_) AllReadyH.nil
          go_simp
          refine hK.out _ _ trivial (fun hHeld => ?_)
          clear hK K hHeld
          try simp only [List.getElem_toArray, List.getElem_cons_succ, List.getElem_cons_zero, Act.put, List.setIfInBounds_toArray, List.set_cons_zero, List.set_cons_succ]
          refine wpAnyH_ready (rs := [5]) (by kernel_rfl) (by simp) ?_
          refine AllReadyH.cons (o := _) rfl (fun K hK => ?_) AllReadyH.nil
          go_simp
          refine hK.out _ _ trivial (fun hHeld => ?_)
          clear hK K hHeld
          try simp only [List.getElem_toArray, List.getElem_cons_succ, List.getElem_cons_zero, Act.put, List.setIfInBounds_toArray, List.set_cons_zero, List.set_cons_succ]
          refine wpAnyH_done (by kernel_rfl) ?_ _
          go_wp2_with fail
          go_meet
          case rel => exact ⟨_, _, _, _, rfl, rfl, rA, rB, Bu33⟩
  case rest =>
  obtain ⟨xa, xc, xb, xd, rfl, rfl, rA, rB, BW⟩ := hcut
  have hlt3 := h3.map.lt
  have s3 := b3.size
  have s4 := b4.size
  have hgl := hr2.lt
  have hOS : OSt W g w4.heap.size (w2.heap.size + 1) w2.heap.size (w3.heap.size + 1) w3.heap.size n (.slice xa 32 xc) (.slice xb 32 xd) wc (List.replicate 16 0) [] [] := ⟨(h3.below b4).below BW, h4.below BW, fun k hk hk2 => (by
    rcases hk with hk | hk
    · rcases hk2 with hk2 | hk2
      · omega
      · cases hk2
    · cases hk), ⟨hgW, by omega, by omega, by omega⟩, fun k hk => (by
    rcases hk with hk | hk
    · omega
    · cases hk), fun k hk => (by
    rcases hk with hk | hk
    · omega
    · cases hk), ((hr2.below b3).below b4).below BW, rfl, rA, rB, ((hT2.below b3).below b4).below BW, below_and (below_and (below_and hB2 (Nat.le_refl _) b3) (Nat.le_refl _) b4) (Nat.le_refl _) BW⟩
  have hOI := OneI.start hn lr (List.replicate 16 0) D0 O1 1 2
  have hHF := (show Hid (rgt n = true ∧ (lr.length : Int) ≤ fau n) from ⟨hn, hf⟩)
  have hn16 := rgt_le hn
  clear h3 h4 b3 b4 hr2 BW rA rB hT2 hB2 B0 hbO hm31 hm32 hn hf
  generalize w4.heap.size = B9 at *
  generalize w3.heap.size + 1 = p2 at *
  generalize w3.heap.size = m2 at *
  generalize w2.heap.size + 1 = p1 at *
  generalize w2.heap.size = m1 at *
  clear hlt3 s3 s4 hgl hgW
  go_upto_region 12 with fail
  go_loopw [12, 51] (fun o j wr => ∃ (q : Nat) (ct : Int) (vo : List Int) (t1 t2 : PTl), q ≤ ys.length ∧ o = .int .i64 ct ∧ j = .int .i64 q ∧ OSt W g B9 p1 m1 p2 m2 n (.slice xa 32 xc) (.slice xb 32 xd) wr vo t1 t2 ∧ OneI n lr vo D0 O1 1 2 t1 t2 ct) (fun _ j _ => ys.length - (intOf j).toNat)
  case atStart => exact ⟨0, 0, _, _, _, by omega, rfl, rfl, hOS, hOI⟩
  case round =>
    clear hOS hOI
    obtain ⟨q, ct, vo, t1, t2, hq, rfl, rfl, hO, hI⟩ := hrel
    have hc1 := hI.le hHF.out.1 hO.l1.ok hO.l2.ok hHF.out.2 (by decide)
    have hc0 : 0 ≤ ct := by
      have := hI.ct
      unfold qd at this
      split at this <;> split at this <;> omega
    by_cases hql : q < ys.length
    case neg =>
      have hd : decide (ct ≤ 1) = true := decide_eq_true hc1
      go_wp2_with fail
      go_ret
      exact ⟨rfl, hO.bel⟩
    obtain ⟨⟨p, x⟩, hA⟩ : ∃ A, ys[q]? = some A := ⟨_, List.getElem?_eq_getElem hql⟩
    obtain ⟨bv, off, cap, hve, _, _, _, hbv, hat⟩ := hvs.at (by omega)
    obtain ⟨rvv, _, hrng, hrv⟩ := hat q _ hA
    injection hve with hv1 hv2 hv3
    subst hv1 hv3
    have hrv : rvv = [.int .i64 p, .int .i64 x] := hrv
    subst hrv
    clear hv2 hat hA
    have hrng := rangeAt_block hrng (hO.bel.block bv hbv)
    have hrow0 := Row.new wr 47 [.int .i64 0, .int .i64 0]
    go_upto_region 14 with (first
      | (refine wpList_load_mid rfl _ _ rfl bv (off + q * 2) rfl [.int .i64 p, .int .i64 x] _ hrng Tryd.underlying47 rfl (by kernel_rfl) ?_)
      | (refine wl_store rfl _ _ _ rfl wr.heap.size [.int .i64 p, .int .i64 x] rfl rfl _ _ hrow0 rfl (by kernel_rfl) (fun u hu => by simp only [List.mem_cons, List.not_mem_nil, or_false] at hu; rcases hu with rfl | rfl <;> rfl) ?_; intro w5 r5 g5))
    have r5 := r5.out
    have b5 : Below wr.heap.size wr w5 := (below_alloc wr (.cells ([.int .i64 0, .int .i64 0] : List Value).toArray 47)).trans (grown_below g5 (by simp) (fun k hk => by cases hk; exact Nat.le_refl _))
    have hO5 := hO.below b5
    generalize wr.heap.size = c7 at *
    clear hrow0 g5 hrng b5 hO
    have k0 := r5.cell (j := 0) rfl
    have k1 := r5.cell (j := 1) rfl
    have hi0 := fun u => run_ixP c7 0 (by decide) u
    have hi1 := fun u => run_ixP c7 1 (by decide) u
    by_cases hp0 : p < 0
    · have hd0 : decide (p < 0) = true := decide_eq_true hp0
      go_wp2_with fail
      go_roundw
      case rel => exact ⟨q + 1, ct, vo, t1, t2, by omega, rfl, by go_num, hO5, hI⟩
      case measure => simp [intOf]; omega
    have hd0 : decide (p < 0) = false := decide_eq_false hp0
    by_cases hpn : n ≤ p
    · have hd1 : decide (n ≤ p) = true := decide_eq_true hpn
      go_wp2_with fail
      go_roundw
      case rel => exact ⟨q + 1, ct, vo, t1, t2, by omega, rfl, by go_num, hO5, hI⟩
      case measure => simp [intOf]; omega
    have hd1 : decide (n ≤ p) = false := decide_eq_false hpn
    obtain ⟨r, rfl⟩ : ∃ r : Nat, p = (r : Int) := ⟨p.toNat, by omega⟩
    have hr16 : r < 16 := by omega
    have hr0 : (0 : Int) ≤ (r : Int) := by omega
    have hrn : (r : Int) < n := by omega
    have hrl : ((r : Int)).toNat < vo.length := by rw [Int.toNat_natCast, hO5.len]; exact hr16
    have hsd := side1 x
    go_upto_region 17 with fail
    generalize wrap64 (1 + bits BinOp.and IntKind.i64 x 1) = sd at *
    have hixO := fun u => run_ixO g r hr16 u
    obtain ⟨v, hv⟩ : ∃ v, v = vo.getD r 0 := ⟨_, rfl⟩
    have hcp : w5.cell? ⟨g, r, none⟩ = some (.int .i64 v) := by
      rw [hv]
      exact hO5.row.cell (iv_get (by rw [hO5.len]; exact hr16))
    have HV := (show Hid (vo.getD ((r : Int)).toNat 0 = v) from by rw [Int.toNat_natCast]; exact hv.symm)
    clear hv
    by_cases hv0 : v = 0
    · subst hv0
      rcases hsd with rfl | rfl
      · go_upto_region 18 with fail
        have hj : r < (iv vo).length := by unfold iv; rw [List.length_map, hO5.len]; exact hr16
        have hrow := hO5.row
        go_upto_region 19 with (refine wl_set rfl 3 _ _ rfl g r (.int .i64 1) (by first | rfl | (simp [Act.eval]; done)) (by first | rfl | (simp [Act.eval]; done)) 46 (iv vo) hrow hj sizI rfl ?_; intro w6 hr6 g6)
        have hr6 := hr6.out
        rw [iv_set] at hr6
        have hO6 := hO5.set hr6 (by rw [List.length_set]; exact hO5.len) g6
        have hM := madeC_any w6 8 (.slice xa 32 xc) D0 hO6.ra.1 (by decide) (r : Int) hO6.tab
        obtain ⟨S, hS⟩ : ∃ S, S = sgC 8 D0 (r : Int) := ⟨_, rfl⟩
        rw [← hS] at hM
        clear hS hrow hj hr6 g6 hO5 r5 k0 k1 hi0 hi1 hixO hcp
        cases hb : addB n 0 t1 8 D0 ((r : Int), S) with
        | true =>
          go_upto_region 21 with (first
            | (go_at_call 9; refine hA.mono ?_; rintro e w8 ⟨nb, hnb, rfl, hT8, hG8⟩)
            | (go_at_call 18; refine hM.mono ?_; rintro e w7 ⟨gv, rfl, hg7, b7⟩; have hO7 := hO6.below b7; have hA := addT_any w7 hO7.l1 8 (.slice xa 32 xc) D0 hO7.ra.1 (r : Int) gv S hg7.1 hO7.tab; rw [hb] at hA))
          have hI8 := hI.step nb S hr0 hrn hrl (.inl HV.out) (by decide) (by decide)
          rw [if_pos hb] at hI8
          rw [Int.toNat_natCast] at hI8
          have hO8 := hO7.add1 hT8 hG8 (fun k hk => by
            rcases own_addT hk with hk | hk
            · exact .inl hk
            · right; omega)
          clear hA hM hg7 b7 hO7 hO6 hT8 hG8
          go_wp2_with fail
          go_roundw
          case rel => exact ⟨q + 1, ct + 1, _, _, _, by omega, by first | rfl | go_num, by go_num, hO8, hI8⟩
          case measure => simp [intOf]; omega
        | false =>
          go_upto_region 21 with (first
            | (go_at_call 9; refine hA.mono ?_; rintro e w8 ⟨nb, hnb, rfl, hT8, hG8⟩)
            | (go_at_call 18; refine hM.mono ?_; rintro e w7 ⟨gv, rfl, hg7, b7⟩; have hO7 := hO6.below b7; have hA := addT_any w7 hO7.l1 8 (.slice xa 32 xc) D0 hO7.ra.1 (r : Int) gv S hg7.1 hO7.tab; rw [hb] at hA))
          have hI8 := hI.step nb S hr0 hrn hrl (.inl HV.out) (by decide) (by decide)
          rw [if_neg (by rw [hb]; decide)] at hI8
          rw [Int.toNat_natCast] at hI8
          have hO8 := hO7.add1 hT8 hG8 (fun k hk => by
            rcases own_addT hk with hk | hk
            · exact .inl hk
            · right; omega)
          clear hA hM hg7 b7 hO7 hO6 hT8 hG8
          go_wp2_with fail
          go_roundw
          case rel => exact ⟨q + 1, ct, _, _, _, by omega, by first | rfl | go_num, by go_num, hO8, hI8⟩
          case measure => simp [intOf]; omega
      · go_upto_region 18 with fail
        have hj : r < (iv vo).length := by unfold iv; rw [List.length_map, hO5.len]; exact hr16
        have hrow := hO5.row
        go_upto_region 19 with (refine wl_set rfl 3 _ _ rfl g r (.int .i64 2) (by first | rfl | (simp [Act.eval]; done)) (by first | rfl | (simp [Act.eval]; done)) 46 (iv vo) hrow hj sizI rfl ?_; intro w6 hr6 g6)
        have hr6 := hr6.out
        rw [iv_set] at hr6
        have hO6 := hO5.set hr6 (by rw [List.length_set]; exact hO5.len) g6
        have hM := madeC_any w6 8 (.slice xb 32 xd) O1 hO6.rb.1 (by decide) (r : Int) hO6.tab
        obtain ⟨S, hS⟩ : ∃ S, S = sgC 8 O1 (r : Int) := ⟨_, rfl⟩
        rw [← hS] at hM
        clear hS hrow hj hr6 g6 hO5 r5 k0 k1 hi0 hi1 hixO hcp
        cases hb : addB n 0 t2 8 O1 ((r : Int), S) with
        | true =>
          go_upto_region 21 with (first
            | (go_at_call 9; refine hA.mono ?_; rintro e w8 ⟨nb, hnb, rfl, hT8, hG8⟩)
            | (go_at_call 18; refine hM.mono ?_; rintro e w7 ⟨gv, rfl, hg7, b7⟩; have hO7 := hO6.below b7; have hA := addT_any w7 hO7.l2 8 (.slice xb 32 xd) O1 hO7.rb.1 (r : Int) gv S hg7.1 hO7.tab; rw [hb] at hA))
          have hI8 := (hI.swap.step nb S hr0 hrn hrl (.inl HV.out) (by decide) (by decide)).swap
          rw [if_pos hb] at hI8
          rw [Int.toNat_natCast] at hI8
          have hO8 := hO7.add2 hT8 hG8 (fun k hk => by
            rcases own_addT hk with hk | hk
            · exact .inl hk
            · right; omega)
          clear hA hM hg7 b7 hO7 hO6 hT8 hG8
          go_wp2_with fail
          go_roundw
          case rel => exact ⟨q + 1, ct + 1, _, _, _, by omega, by first | rfl | go_num, by go_num, hO8, hI8⟩
          case measure => simp [intOf]; omega
        | false =>
          go_upto_region 21 with (first
            | (go_at_call 9; refine hA.mono ?_; rintro e w8 ⟨nb, hnb, rfl, hT8, hG8⟩)
            | (go_at_call 18; refine hM.mono ?_; rintro e w7 ⟨gv, rfl, hg7, b7⟩; have hO7 := hO6.below b7; have hA := addT_any w7 hO7.l2 8 (.slice xb 32 xd) O1 hO7.rb.1 (r : Int) gv S hg7.1 hO7.tab; rw [hb] at hA))
          have hI8 := (hI.swap.step nb S hr0 hrn hrl (.inl HV.out) (by decide) (by decide)).swap
          rw [if_neg (by rw [hb]; decide)] at hI8
          rw [Int.toNat_natCast] at hI8
          have hO8 := hO7.add2 hT8 hG8 (fun k hk => by
            rcases own_addT hk with hk | hk
            · exact .inl hk
            · right; omega)
          clear hA hM hg7 b7 hO7 hO6 hT8 hG8
          go_wp2_with fail
          go_roundw
          case rel => exact ⟨q + 1, ct, _, _, _, by omega, by first | rfl | go_num, by go_num, hO8, hI8⟩
          case measure => simp [intOf]; omega
    by_cases hvs : v = sd
    · subst hvs
      rcases hsd with rfl | rfl
      · go_upto_region 18 with fail
        have hj : r < (iv vo).length := by unfold iv; rw [List.length_map, hO5.len]; exact hr16
        have hrow := hO5.row
        go_upto_region 19 with (refine wl_set rfl 3 _ _ rfl g r (.int .i64 1) (by first | rfl | (simp [Act.eval]; done)) (by first | rfl | (simp [Act.eval]; done)) 46 (iv vo) hrow hj sizI rfl ?_; intro w6 hr6 g6)
        have hr6 := hr6.out
        rw [iv_set] at hr6
        have hO6 := hO5.set hr6 (by rw [List.length_set]; exact hO5.len) g6
        have hM := madeC_any w6 8 (.slice xa 32 xc) D0 hO6.ra.1 (by decide) (r : Int) hO6.tab
        obtain ⟨S, hS⟩ : ∃ S, S = sgC 8 D0 (r : Int) := ⟨_, rfl⟩
        rw [← hS] at hM
        clear hS hrow hj hr6 g6 hO5 r5 k0 k1 hi0 hi1 hixO hcp
        cases hb : addB n 0 t1 8 D0 ((r : Int), S) with
        | true =>
          go_upto_region 21 with (first
            | (go_at_call 9; refine hA.mono ?_; rintro e w8 ⟨nb, hnb, rfl, hT8, hG8⟩)
            | (go_at_call 18; refine hM.mono ?_; rintro e w7 ⟨gv, rfl, hg7, b7⟩; have hO7 := hO6.below b7; have hA := addT_any w7 hO7.l1 8 (.slice xa 32 xc) D0 hO7.ra.1 (r : Int) gv S hg7.1 hO7.tab; rw [hb] at hA))
          have hI8 := hI.step nb S hr0 hrn hrl (.inr (.inl HV.out)) (by decide) (by decide)
          rw [if_pos hb] at hI8
          rw [Int.toNat_natCast] at hI8
          have hO8 := hO7.add1 hT8 hG8 (fun k hk => by
            rcases own_addT hk with hk | hk
            · exact .inl hk
            · right; omega)
          clear hA hM hg7 b7 hO7 hO6 hT8 hG8
          go_wp2_with fail
          go_roundw
          case rel => exact ⟨q + 1, ct + 1, _, _, _, by omega, by first | rfl | go_num, by go_num, hO8, hI8⟩
          case measure => simp [intOf]; omega
        | false =>
          go_upto_region 21 with (first
            | (go_at_call 9; refine hA.mono ?_; rintro e w8 ⟨nb, hnb, rfl, hT8, hG8⟩)
            | (go_at_call 18; refine hM.mono ?_; rintro e w7 ⟨gv, rfl, hg7, b7⟩; have hO7 := hO6.below b7; have hA := addT_any w7 hO7.l1 8 (.slice xa 32 xc) D0 hO7.ra.1 (r : Int) gv S hg7.1 hO7.tab; rw [hb] at hA))
          have hI8 := hI.step nb S hr0 hrn hrl (.inr (.inl HV.out)) (by decide) (by decide)
          rw [if_neg (by rw [hb]; decide)] at hI8
          rw [Int.toNat_natCast] at hI8
          have hO8 := hO7.add1 hT8 hG8 (fun k hk => by
            rcases own_addT hk with hk | hk
            · exact .inl hk
            · right; omega)
          clear hA hM hg7 b7 hO7 hO6 hT8 hG8
          go_wp2_with fail
          go_roundw
          case rel => exact ⟨q + 1, ct, _, _, _, by omega, by first | rfl | go_num, by go_num, hO8, hI8⟩
          case measure => simp [intOf]; omega
      · go_upto_region 18 with fail
        have hj : r < (iv vo).length := by unfold iv; rw [List.length_map, hO5.len]; exact hr16
        have hrow := hO5.row
        go_upto_region 19 with (refine wl_set rfl 3 _ _ rfl g r (.int .i64 2) (by first | rfl | (simp [Act.eval]; done)) (by first | rfl | (simp [Act.eval]; done)) 46 (iv vo) hrow hj sizI rfl ?_; intro w6 hr6 g6)
        have hr6 := hr6.out
        rw [iv_set] at hr6
        have hO6 := hO5.set hr6 (by rw [List.length_set]; exact hO5.len) g6
        have hM := madeC_any w6 8 (.slice xb 32 xd) O1 hO6.rb.1 (by decide) (r : Int) hO6.tab
        obtain ⟨S, hS⟩ : ∃ S, S = sgC 8 O1 (r : Int) := ⟨_, rfl⟩
        rw [← hS] at hM
        clear hS hrow hj hr6 g6 hO5 r5 k0 k1 hi0 hi1 hixO hcp
        cases hb : addB n 0 t2 8 O1 ((r : Int), S) with
        | true =>
          go_upto_region 21 with (first
            | (go_at_call 9; refine hA.mono ?_; rintro e w8 ⟨nb, hnb, rfl, hT8, hG8⟩)
            | (go_at_call 18; refine hM.mono ?_; rintro e w7 ⟨gv, rfl, hg7, b7⟩; have hO7 := hO6.below b7; have hA := addT_any w7 hO7.l2 8 (.slice xb 32 xd) O1 hO7.rb.1 (r : Int) gv S hg7.1 hO7.tab; rw [hb] at hA))
          have hI8 := (hI.swap.step nb S hr0 hrn hrl (.inr (.inl HV.out)) (by decide) (by decide)).swap
          rw [if_pos hb] at hI8
          rw [Int.toNat_natCast] at hI8
          have hO8 := hO7.add2 hT8 hG8 (fun k hk => by
            rcases own_addT hk with hk | hk
            · exact .inl hk
            · right; omega)
          clear hA hM hg7 b7 hO7 hO6 hT8 hG8
          go_wp2_with fail
          go_roundw
          case rel => exact ⟨q + 1, ct + 1, _, _, _, by omega, by first | rfl | go_num, by go_num, hO8, hI8⟩
          case measure => simp [intOf]; omega
        | false =>
          go_upto_region 21 with (first
            | (go_at_call 9; refine hA.mono ?_; rintro e w8 ⟨nb, hnb, rfl, hT8, hG8⟩)
            | (go_at_call 18; refine hM.mono ?_; rintro e w7 ⟨gv, rfl, hg7, b7⟩; have hO7 := hO6.below b7; have hA := addT_any w7 hO7.l2 8 (.slice xb 32 xd) O1 hO7.rb.1 (r : Int) gv S hg7.1 hO7.tab; rw [hb] at hA))
          have hI8 := (hI.swap.step nb S hr0 hrn hrl (.inr (.inl HV.out)) (by decide) (by decide)).swap
          rw [if_neg (by rw [hb]; decide)] at hI8
          rw [Int.toNat_natCast] at hI8
          have hO8 := hO7.add2 hT8 hG8 (fun k hk => by
            rcases own_addT hk with hk | hk
            · exact .inl hk
            · right; omega)
          clear hA hM hg7 b7 hO7 hO6 hT8 hG8
          go_wp2_with fail
          go_roundw
          case rel => exact ⟨q + 1, ct, _, _, _, by omega, by first | rfl | go_num, by go_num, hO8, hI8⟩
          case measure => simp [intOf]; omega
    have hP := placeZ_any w5 (.slice al lr.length cl) lr (r : Int) (hls.mv mov_int hO5.bel.size (Mv.below hO5.bel))
    have hlo := plc_lo lr (r : Int)
    obtain ⟨pl, hpl⟩ : ∃ pl, pl = plc lr (r : Int) := ⟨_, rfl⟩
    rw [← hpl] at hP hlo
    have HPL := (show Hid (¬ pl < 0 → (r : Int) ∈ lr) from fun h => by
      have h1 : ¬ plc lr (r : Int) = -1 := by rw [← hpl]; omega
      rw [plc_none] at h1
      exact Decidable.not_not.1 h1)
    clear hpl
    have hne1 : (v != 0) = true := by simpa using hv0
    have hne2 : (v != sd) = true := by simpa using hvs
    by_cases hp : pl < 0
    · have hdp : decide (pl < 0) = true := decide_eq_true hp
      go_wp2_with (go_at_call 17; refine hP.mono ?_; rintro e w6 ⟨rfl, hw6⟩; rw [hw6]; clear hw6 w6)
      go_roundw
      case rel => exact ⟨q + 1, ct, vo, t1, t2, by omega, rfl, by go_num, hO5, hI⟩
      case measure => simp [intOf]; omega
    have hdp : decide (pl < 0) = false := decide_eq_false hp
    have hmem := HPL.out hp
    go_upto_region 18 with (go_at_call 17; refine hP.mono ?_; rintro e w6 ⟨rfl, hw6⟩; rw [hw6]; clear hw6 w6)
    clear hP hdp hp HPL hne1 hne2
    rcases hsd with rfl | rfl
    · skip
      have hj : r < (iv vo).length := by unfold iv; rw [List.length_map, hO5.len]; exact hr16
      have hrow := hO5.row
      go_upto_region 19 with (refine wl_set rfl 3 _ _ rfl g r (.int .i64 1) (by first | rfl | (simp [Act.eval]; done)) (by first | rfl | (simp [Act.eval]; done)) 46 (iv vo) hrow hj sizI rfl ?_; intro w6 hr6 g6)
      have hr6 := hr6.out
      rw [iv_set] at hr6
      have hO6 := hO5.set hr6 (by rw [List.length_set]; exact hO5.len) g6
      have hM := madeC_any w6 8 (.slice xa 32 xc) D0 hO6.ra.1 (by decide) (r : Int) hO6.tab
      obtain ⟨S, hS⟩ : ∃ S, S = sgC 8 D0 (r : Int) := ⟨_, rfl⟩
      rw [← hS] at hM
      clear hS hrow hj hr6 g6 hO5 r5 k0 k1 hi0 hi1 hixO hcp
      cases hb : addB n 0 t1 8 D0 ((r : Int), S) with
      | true =>
        go_upto_region 21 with (first
          | (go_at_call 9; refine hA.mono ?_; rintro e w8 ⟨nb, hnb, rfl, hT8, hG8⟩)
          | (go_at_call 18; refine hM.mono ?_; rintro e w7 ⟨gv, rfl, hg7, b7⟩; have hO7 := hO6.below b7; have hA := addT_any w7 hO7.l1 8 (.slice xa 32 xc) D0 hO7.ra.1 (r : Int) gv S hg7.1 hO7.tab; rw [hb] at hA))
        have hI8 := hI.step nb S hr0 hrn hrl (.inr (.inr hmem)) (by decide) (by decide)
        rw [if_pos hb] at hI8
        rw [Int.toNat_natCast] at hI8
        have hO8 := hO7.add1 hT8 hG8 (fun k hk => by
          rcases own_addT hk with hk | hk
          · exact .inl hk
          · right; omega)
        clear hA hM hg7 b7 hO7 hO6 hT8 hG8
        go_wp2_with fail
        go_roundw
        case rel => exact ⟨q + 1, ct + 1, _, _, _, by omega, by first | rfl | go_num, by go_num, hO8, hI8⟩
        case measure => simp [intOf]; omega
      | false =>
        go_upto_region 21 with (first
          | (go_at_call 9; refine hA.mono ?_; rintro e w8 ⟨nb, hnb, rfl, hT8, hG8⟩)
          | (go_at_call 18; refine hM.mono ?_; rintro e w7 ⟨gv, rfl, hg7, b7⟩; have hO7 := hO6.below b7; have hA := addT_any w7 hO7.l1 8 (.slice xa 32 xc) D0 hO7.ra.1 (r : Int) gv S hg7.1 hO7.tab; rw [hb] at hA))
        have hI8 := hI.step nb S hr0 hrn hrl (.inr (.inr hmem)) (by decide) (by decide)
        rw [if_neg (by rw [hb]; decide)] at hI8
        rw [Int.toNat_natCast] at hI8
        have hO8 := hO7.add1 hT8 hG8 (fun k hk => by
          rcases own_addT hk with hk | hk
          · exact .inl hk
          · right; omega)
        clear hA hM hg7 b7 hO7 hO6 hT8 hG8
        go_wp2_with fail
        go_roundw
        case rel => exact ⟨q + 1, ct, _, _, _, by omega, by first | rfl | go_num, by go_num, hO8, hI8⟩
        case measure => simp [intOf]; omega
    · skip
      have hj : r < (iv vo).length := by unfold iv; rw [List.length_map, hO5.len]; exact hr16
      have hrow := hO5.row
      go_upto_region 19 with (refine wl_set rfl 3 _ _ rfl g r (.int .i64 2) (by first | rfl | (simp [Act.eval]; done)) (by first | rfl | (simp [Act.eval]; done)) 46 (iv vo) hrow hj sizI rfl ?_; intro w6 hr6 g6)
      have hr6 := hr6.out
      rw [iv_set] at hr6
      have hO6 := hO5.set hr6 (by rw [List.length_set]; exact hO5.len) g6
      have hM := madeC_any w6 8 (.slice xb 32 xd) O1 hO6.rb.1 (by decide) (r : Int) hO6.tab
      obtain ⟨S, hS⟩ : ∃ S, S = sgC 8 O1 (r : Int) := ⟨_, rfl⟩
      rw [← hS] at hM
      clear hS hrow hj hr6 g6 hO5 r5 k0 k1 hi0 hi1 hixO hcp
      cases hb : addB n 0 t2 8 O1 ((r : Int), S) with
      | true =>
        go_upto_region 21 with (first
          | (go_at_call 9; refine hA.mono ?_; rintro e w8 ⟨nb, hnb, rfl, hT8, hG8⟩)
          | (go_at_call 18; refine hM.mono ?_; rintro e w7 ⟨gv, rfl, hg7, b7⟩; have hO7 := hO6.below b7; have hA := addT_any w7 hO7.l2 8 (.slice xb 32 xd) O1 hO7.rb.1 (r : Int) gv S hg7.1 hO7.tab; rw [hb] at hA))
        have hI8 := (hI.swap.step nb S hr0 hrn hrl (.inr (.inr hmem)) (by decide) (by decide)).swap
        rw [if_pos hb] at hI8
        rw [Int.toNat_natCast] at hI8
        have hO8 := hO7.add2 hT8 hG8 (fun k hk => by
          rcases own_addT hk with hk | hk
          · exact .inl hk
          · right; omega)
        clear hA hM hg7 b7 hO7 hO6 hT8 hG8
        go_wp2_with fail
        go_roundw
        case rel => exact ⟨q + 1, ct + 1, _, _, _, by omega, by first | rfl | go_num, by go_num, hO8, hI8⟩
        case measure => simp [intOf]; omega
      | false =>
        go_upto_region 21 with (first
          | (go_at_call 9; refine hA.mono ?_; rintro e w8 ⟨nb, hnb, rfl, hT8, hG8⟩)
          | (go_at_call 18; refine hM.mono ?_; rintro e w7 ⟨gv, rfl, hg7, b7⟩; have hO7 := hO6.below b7; have hA := addT_any w7 hO7.l2 8 (.slice xb 32 xd) O1 hO7.rb.1 (r : Int) gv S hg7.1 hO7.tab; rw [hb] at hA))
        have hI8 := (hI.swap.step nb S hr0 hrn hrl (.inr (.inr hmem)) (by decide) (by decide)).swap
        rw [if_neg (by rw [hb]; decide)] at hI8
        rw [Int.toNat_natCast] at hI8
        have hO8 := hO7.add2 hT8 hG8 (fun k hk => by
          rcases own_addT hk with hk | hk
          · exact .inl hk
          · right; omega)
        clear hA hM hg7 b7 hO7 hO6 hT8 hG8
        go_wp2_with fail
        go_roundw
        case rel => exact ⟨q + 1, ct, _, _, _, by omega, by first | rfl | go_num, by go_num, hO8, hI8⟩
        case measure => simp [intOf]; omega
end
end Go.Proofs.YtgpkngiakhdmhaaDoor
