/- The document's own answer for layer 6: what a vote signs. -/
import Derived.Test.YtgjepofinpmcpaaGreatDoorMBL
import Derived.Test.YtgjepofinpmcpaaGreatDoorMAO
import Derived.Test.YtgjepofinpmcpaaGreatDoorMAE
import Derived.Test.YtgjepofinpmcpaaGreatDoorMBF
import Derived.Test.YtgjepofinpmcpaaGreatDoorMBO
set_option linter.unusedSimpArgs false
set_option linter.unusedVariables false
namespace Go.Proofs.YtgjepofinpmcpaaGreatDoor
section
open Go.RowKit Oct Kvl
def mkL (m : PMsg) : Bool := decide (zCr m = 0) && zF5 (zEj m) 16
def mkB (m : PMsg) : List Int := if mkL m = true then zEj m else []
def mkE (m : PMsg) : Int := if mkL m = true then 0 else 161
theorem mk_no {m : PMsg} (h : mkL m = false) : mkB m = [] ∧ mkE m = 161 := by unfold mkB mkE; rw [h]; exact ⟨rfl, rfl⟩
theorem zLy {m : PMsg} (h : mkL m = true) : mkB m = zEj m ∧ mkE m = 0 := by unfold mkB mkE; rw [h]; exact ⟨rfl, rfl⟩
def MkP (m : PMsg) (w : World) (e : Ending) (w' : World) : Prop := ∃ v, e = .returned (.tuple #[v, .int .i64 (mkE m)]) ∧ RT Any w' v (mkB m) ∧ Below w.heap.size w w'
theorem MkP.no {m : PMsg} {w w' : World} (h : mkL m = false) (hb : Below w.heap.size w w') : MkP m w (.returned (.tuple #[.slice none 0 0, .int .i64 161])) w' := by
  obtain ⟨h1, h2⟩ := mk_no h
  exact ⟨_, by rw [h2], by rw [h1]; exact RT.nil _ _, hb⟩
set_option maxRecDepth 10000 in
set_option maxHeartbeats 4000000 in
theorem zP1 (w : World) (m : PMsg) (s : SV) (hs : SOk Any w m s) (hT : Tab w) : Calls Tryz.prog 12 #[.agg (mc m s).toArray] w (MkP m w) := by
  obtain ⟨w1, hw1, r1, B1⟩ := boxP w m s
  have HE := zJo w1 m s (hs.below B1)
  have HL := (show Hid (mkL m = (decide (zCr m = 0) && zF5 (zEj m) 16)) from rfl)
  have HCE := (show Hid (zRp (zEj m) 16 = if zF5 (zEj m) 16 = true then 0 else 161) from rfl)
  have HY := (show Hid (mkL m = true → mkB m = zEj m ∧ mkE m = 0) from zLy)
  go_enter Tryz.func12, Tryz.ntmps12
  go_upto_region 1 with fail
  rw [← hw1]
  clear hw1
  go_upto_region 2 with (first
    | (refine zAa rfl _ _ rfl w.heap.size rfl _ _ r1 _ Tryz.underlying40 rfl (by kernel_rfl) ?_)
    | (go_at_call 28; refine HE.mono ?_; rintro e w2 ⟨v2, rfl, o2, y2, f2, b2⟩))
  have B2 := zA1 B1 zN b2
  have R2 : RT Any w2 v2 (zEj m) := ⟨o2.rd y2, fun _ _ _ => trivial⟩
  have HC := zGb w2 v2 (zEj m) R2 16 (hT.below B2)
  clear HE r1 B1 b2 o2 y2 f2 hT hs
  by_cases h0 : zCr m = 0
  case neg =>
    have hN : mkL m = false := by rw [HL.out, decide_eq_false h0]; rfl
    have h0' : (zCr m != 0) = true := by simpa using h0
    have HP := (show Hid (MkP m w (.returned (.tuple #[.slice none 0 0, .int .i64 161])) w2) from MkP.no hN B2)
    generalize zCr m = E at *
    clear HC HL HCE HY hN R2
    go_wp2_with fail
    go_ret2
    exact HP.out
  rw [decide_eq_true h0, Bool.true_and] at HL
  rw [h0]
  clear h0
  cases hK : zF5 (zEj m) 16 with
  | false =>
    have hN : mkL m = false := by rw [HL.out, hK]
    have HP := (show Hid (∀ w', Below w.heap.size w w' → MkP m w (.returned (.tuple #[.slice none 0 0, .int .i64 161])) w') from fun w' => MkP.no hN)
    unfold CkP at HC
    rw [(zFa hK).1, (zFa hK).2] at HC
    clear HL HCE HY hN R2 hK
    go_wp2_with (go_at_call 9; refine HC.mono ?_; rintro e w3 ⟨rfl, b3⟩)
    go_ret2
    exact HP.out _ (zA1 B2 zN b3)
  | true =>
    have hN : mkL m = true := by rw [HL.out, hK]
    have hY := HY.out hN
    have HP := (show Hid (∀ w', Below w2.heap.size w2 w' → MkP m w (.returned (.tuple #[v2, .int .i64 0])) w') from fun w' hb => ⟨v2, by rw [hY.2], by rw [hY.1]; exact R2.mv (Mv.below hb), zA1 B2 zN hb⟩)
    unfold CkP at HC
    rw [(zGs hK).2] at HC
    generalize zQi (zEj m) 16 = W1 at *
    clear HL HCE HY hN R2 hK hY
    go_wp2_with (go_at_call 9; refine HC.mono ?_; rintro e w3 ⟨rfl, b3⟩)
    go_ret2
    exact HP.out _ b3
end
section
open Go.RowKit Oct
structure Gr2 (w w' : World) (b : Nat) (v : Value) : Prop where
  os : w'.os = w.os
  tape : w'.tape = w.tape
  output : w'.output = w.output
  size : w.heap.size ≤ w'.heap.size
  block : ∀ k, k < w.heap.size → k ≠ b → v.ownBlock ≠ some k → w'.heap[k]? = w.heap[k]?
theorem Gr2.refl (w : World) (b : Nat) (v : Value) : Gr2 w w b v := ⟨rfl, rfl, rfl, zN, fun _ _ _ _ => rfl⟩
theorem Gr2.of {w w' : World} {b : Nat} {v : Value} (h : w.grownBy w' (some b)) : Gr2 w w' b v := ⟨h.os, h.tape, h.output, h.size, fun k hk hne _ => h.block k hk (fun e => hne (by injection e))⟩
theorem Gr2.bel {w w' : World} {b : Nat} {v : Value} (h : Below w.heap.size w w') : Gr2 w w' b v := ⟨h.os, h.tape, h.output, h.size, fun k hk _ _ => h.block k hk⟩
def Spt (w : World) (v v' : Value) : Prop := v'.ownBlock = v.ownBlock ∨ Fr w.heap.size v'
theorem Gr2.trans {w w1 w2 : World} {b : Nat} {v v1 : Value} (h : Gr2 w w1 b v) (hs : Spt w v v1) (h' : Gr2 w1 w2 b v1) : Gr2 w w2 b v :=
  ⟨h'.os.trans h.os, h'.tape.trans h.tape, h'.output.trans h.output, Nat.le_trans h.size h'.size, fun k hk hne hv => by
    refine (h'.block k (Nat.lt_of_lt_of_le hk h.size) hne ?_).trans (h.block k hk hne hv)
    rcases hs with e | hf
    · rw [e]; exact hv
    · intro e
      have := hf k e
      omega⟩
theorem Gr2.below {w w' : World} {b B : Nat} {v : Value} (h : Gr2 w w' b v) (hB : B ≤ w.heap.size) (hb : B ≤ b) (hv : Fr B v) : Below B w w' :=
  ⟨h.os, h.tape, h.output, h.size, fun k hk => h.block k (by omega) (by omega) (fun e => by have := hv k e; omega)⟩
theorem Gr2.rd {w w' : World} {b : Nat} {v u : Value} {l : List Int} (h : Gr2 w w' b v) (hr : Rd w u l) (hb : l ≠ [] → u.ownBlock ≠ some b) (hv : l ≠ [] → ∀ k, v.ownBlock = some k → u.ownBlock ≠ some k) : Rd w' u l :=
  ⟨hr.1, hr.2.keep fun hx k hk hlt => by
    have hx : l ≠ [] := fun e => hx (by rw [e]; rfl)
    exact h.block k hlt (fun e => hb hx (by rw [hk, e])) (fun e => hv hx k e hk)⟩
theorem Gr2.own {w w' : World} {b : Nat} {v u : Value} {e : TypeId} {xs : List Value} (h : Gr2 w w' b v) (hr : Own w e u xs) (hb : u.ownBlock ≠ some b) (hv : ∀ k, v.ownBlock = some k → u.ownBlock ≠ some k) : Own w' e u xs := by
  obtain ⟨h1, h2⟩ := hr
  refine ⟨h1, ?_⟩
  rcases h2 with h2 | ⟨g, cap, cur, rfl, h3, hg, h4⟩
  · exact .inl h2
  · refine .inr ⟨g, cap, cur, rfl, h3, ?_, h4⟩
    rw [h.block g ((Array.getElem?_eq_some_iff.1 hg).1) (fun e => hb (by rw [← e]; rfl)) (fun e => hv g e rfl)]
    exact hg
theorem Gr2.row {w w' : World} {b c : Nat} {v : Value} {t : TypeId} {xs : List Value} (h : Gr2 w w' b v) (hr : Row w c t xs) (hb : c ≠ b) (hv : v.ownBlock ≠ some c) : Row w' c t xs := (h.block c hr.lt hb hv).trans hr
section
variable {P : Program}
theorem wp_pushS {α : Type} {R : (Nat → Prop) → World → List Value → α → Prop} (hR : Mov R) {w : World} {o : Oper} {a : Act} {K : Act → World → Prop} {Q : Exit → Act → World → Prop} (s x : Operand) (t : TypeId)
    (ho : o.op = .call { callee := .builtin .append, args := #[s, x], argTypes := #[t, t] }) (e : TypeId) (k bytes : Nat) (z : Value) (ht : P.underlying t = some (.slice e)) (hi : (P.info? e).map (fun i => (i.zero, i.size, i.bytes)) = some (some z, k, bytes))
    (hzs : z.cells.size = k) (hk : 0 < k) (B : Nat) (v : Value) (ys : List α) (hs : a.eval s = v) (hL : LB R e k B w v ys) (r : List Value) (y : α) (C : Nat) (hr : R (zB0 C) w r y) (hrl : r.length = k) (h1 : ∀ u ∈ r, u.oneCell' = true)
    (hC : B ≤ C) (hCv : ∀ g, v.ownBlock = some g → g < C) (hx : a.eval x = .slice (some ⟨w.heap.size, 0, none⟩) 1 1) (hB : B ≤ w.heap.size)
    (hb : (ys.length + 1) * bytes ≤ 140737488355328) (hb0 : 1 ≤ bytes)
    (h : ∀ v' w', LB R e k B w' v' (ys ++ [y]) → w.grownBy w' v.ownBlock → Spt w v v' → K (a.put o.dst v') w') : o.wp P a (w.alloc (.cells r.toArray e)) K Q := by
  obtain ⟨i0, hi, hz0, hz1, hz2⟩ := info_parts hi
  obtain ⟨rows, h0, hown, hfr, hall⟩ := hL
  have hlen := hall.len
  have hbel := zA0 w (.cells r.toArray e)
  have hown1 : (w.alloc (.cells r.toArray e)).ownsRow 0 e k v rows.length rows.flatten := World.ownsRow.kept (row := none) hown ⟨hbel.os, hbel.tape, hbel.output, hbel.size, fun k hk _ => hbel.block k hk⟩ (by cases hv : v.ownBlock <;> simp)
  have hmul : ys.length + 1 ≤ (ys.length + 1) * bytes := Nat.le_mul_of_pos_right _ hb0
  refine wp_append_lies (w.alloc (.cells r.toArray e)) s x t ho 0 e i0 z k bytes ht hi hz0 hz1 hz2 hzs hk v rows.length rows.flatten hs hown1 ⟨w.heap.size, 0, none⟩ 1 1 r hx (by omega)
    (fun j u hj => by
      rw [Addr.add_mid, Nat.zero_add]
      exact (Row.new w e r).cell hj) h1 (by omega) (by rw [hlen]; unfold maxLen; omega) (by rw [hlen]; exact hb) (Nat.zero_le _) (w.heap.size + 1) (by simp) ?_
  intro g cap w' hown' hgr hat hlt
  have hg0 : w.grownBy w' v.ownBlock := zA2 (zA8 hbel _) hgr (.inl rfl)
  have hgB : B ≤ g := by
    rcases hat with hat | hat
    · exact hfr g hat
    · omega
  have hflat : rows.flatten ++ r = (rows ++ [r]).flatten := by simp
  refine h _ w' ⟨rows ++ [r], ?_, ?_, ?_, ?_⟩ hg0 (by
    rcases hat with hat | hat
    · exact .inl (by rw [hat]; rfl)
    · exact .inr fun j hj => by simp [Value.ownBlock] at hj; omega)
  · intro q hq
    rcases List.mem_append.1 hq with hq | hq
    · exact h0 q hq
    · simp at hq; subst hq; exact hrl
  · rw [List.length_append, ← hflat]
    exact hown'
  · exact fun j hj => by simp [Value.ownBlock] at hj; omega
  · have hold : zC0 (R (fun b => B ≤ b ∧ (Value.slice (some ⟨g, 0, none⟩) (rows.length + 1) cap).ownBlock ≠ some b) w') rows ys := hall.mono fun q b hq => hR _ _ w w' q b hq hg0.size fun j hj hjl => by
      refine ⟨hg0.block j hjl (fun e => hj.2 e.symm), hj.1, fun e => ?_⟩
      simp [Value.ownBlock] at e
      rcases hat with hat | hat
      · exact hj.2 (by rw [hat, e])
      · omega
    have hnew : R (fun b => B ≤ b ∧ (Value.slice (some ⟨g, 0, none⟩) (rows.length + 1) cap).ownBlock ≠ some b) w' r y := hR _ _ w w' r y hr hg0.size fun j hj hjl => by
      unfold zB0 at hj
      refine ⟨hg0.block j hjl (fun e => by have := hCv j e.symm; omega), by omega, fun e => ?_⟩
      simp [Value.ownBlock] at e
      rcases hat with hat | hat
      · have := hCv g hat; omega
      · omega
    exact zC0.app hold ⟨hnew, trivial⟩
theorem wl_pushS {α : Type} {R : (Nat → Prop) → World → List Value → α → Prop} (hR : Mov R) {w : World} {ops : Array Oper} {rest : List Oper} {o : Oper} {a : Act} {Q : Exit → Act → World → Prop} (hgd : o.guard = none) (s x : Operand) (t : TypeId)
    (ho : o.op = .call { callee := .builtin .append, args := #[s, x], argTypes := #[t, t] }) (e : TypeId) (k bytes : Nat) (z : Value) (ht : P.underlying t = some (.slice e)) (hi : (P.info? e).map (fun i => (i.zero, i.size, i.bytes)) = some (some z, k, bytes))
    (hzs : z.cells.size = k) (hk : 0 < k) (B : Nat) (v : Value) (ys : List α) (hs : a.eval s = v) (hL : LB R e k B w v ys) (r : List Value) (y : α) (C : Nat) (hr : R (zB0 C) w r y) (hrl : r.length = k) (h1 : ∀ u ∈ r, u.oneCell' = true)
    (hC : B ≤ C) (hCv : ∀ g, v.ownBlock = some g → g < C) (hx : a.eval x = .slice (some ⟨w.heap.size, 0, none⟩) 1 1) (hB : B ≤ w.heap.size)
    (hb : (ys.length + 1) * bytes ≤ 140737488355328) (hb0 : 1 ≤ bytes)
    (h : ∀ v' w', LB R e k B w' v' (ys ++ [y]) → w.grownBy w' v.ownBlock → Spt w v v' → wpList P ops Q rest (a.put o.dst v') w') : wpList P ops Q (o :: rest) a (w.alloc (.cells r.toArray e)) :=
  wpList_plain hgd fun _ hK => wp_pushS hR s x t ho e k bytes z ht hi hzs hk B v ys hs hL r y C hr hrl h1 hC hCv hx hB hb hb0 fun v' w' h2 h3 h4 => hK _ _ (h v' w' h2 h3 h4)
end
end
section
open Go.RowKit Oct Sha
set_option maxRecDepth 10000 in
set_option maxHeartbeats 1000000 in
theorem zM5 (w : World) (k x y s : Int) (v : Value) (l : List Int) (hv : Rd w v l) :
    Calls Tryz.prog 54 #[.int .i64 k, .agg #[.int .i64 x, .int .i64 y], .int .i64 s, v] w fun e w' => ∃ v', e = .returned v' ∧ Rdl w' v' [zBp [k, x, y, s], l] ∧ Below w.heap.size w w' := by
  obtain ⟨ao, cap, rfl, hcap⟩ := hv.form
  go_enter Tryz.func54, Tryz.ntmps54
  go_wp2_with fail
  have hr := zGq (w.alloc (.cells #[.int .i64 x, .int .i64 y] 32)) (nc [k, x, y, s]) 3 (by simp [nc]) (by simp [nc])
  rw [show (w.alloc (.cells #[.int .i64 x, .int .i64 y] 32)).heap.size = w.heap.size + 1 by simp] at hr
  have b0 : Below w.heap.size w ((w.alloc (.cells #[.int .i64 x, .int .i64 y] 32)).alloc (.cells (nc [k, x, y, s]).toArray 3)) := zA1 (zA0 w _) zN (zA0 _ _)
  refine (zNo _ _ [k, x, y, s] hr (by simp) (by simp)).mono ?_
  rintro e w1 ⟨v1, rfl, ho1, hf1, hb1⟩
  have B1 := zA1 b0 zN hb1
  have r1 := ho1.rd (zIw _)
  have v1' := hv.below B1
  clear hr b0 hb1 ho1 hf1
  obtain ⟨a1, c1, rfl, hc1⟩ := r1.form
  go_wp2_with fail
  go_ret
  exact ⟨_, rfl, ⟨[.slice a1 (zBp [k, x, y, s]).length c1, .slice ao l.length cap], zGq w1 [.slice a1 (zBp [k, x, y, s]).length c1, .slice ao l.length cap] 23 (by simp) (by simp), r1.below (zA0 _ _), v1'.below (zA0 _ _), trivial⟩, zA1 B1 zN (zA0 _ _)⟩
set_option maxRecDepth 10000 in
set_option maxHeartbeats 2000000 in
theorem zG9 (w : World) (k x y s i : Int) (v : Value) (l : List Int) (hv : Rd w v l) (hl : l.length ≤ 3000000) (gv : Value) (g : List Int) (hg : Rd w gv g) :
    Calls Tryz.prog 27 #[.int .i64 k, .agg #[.int .i64 x, .int .i64 y], .int .i64 s, v, .agg #[.int .i64 i, gv]] w fun e w' => e = .returned (.bool (zPz (zHb i) g (sL ⟨#[118, 111, 116, 101]⟩) [zBp [k, x, y, s], l])) ∧ Below w.heap.size w w' := by
  obtain ⟨ao, cap, rfl, hcap⟩ := hv.form
  obtain ⟨ag, gap, rfl, hgap⟩ := hg.form
  obtain ⟨w0, hw0⟩ : ∃ w0, w0 = (w.alloc (.cells #[.int .i64 x, .int .i64 y] 32)).alloc (.cells #[.int .i64 i, .slice ag g.length gap] 58) := ⟨_, rfl⟩
  have ra : Row w0 w.heap.size 32 [.int .i64 x, .int .i64 y] := by rw [hw0]; exact (Row.new w 32 _).below (zA0 _ _)
  have rb : Row w0 (w.heap.size + 1) 58 [.int .i64 i, .slice ag g.length gap] := by rw [hw0, show w.heap.size + 1 = (w.alloc (.cells #[.int .i64 x, .int .i64 y] 32)).heap.size by simp]; exact Row.new _ 58 _
  have B0 : Below w.heap.size w w0 := by rw [hw0]; exact zA1 (zA0 _ _) zN (zA0 _ _)
  have hdw : Below w0.heap.size w0 w0.drew := ⟨rfl, rfl, rfl, zN, fun _ _ => rfl⟩
  go_enter Tryz.func27, Tryz.ntmps27
  go_upto_region 1 with fail
  rw [← hw0]
  clear hw0
  have v0 := hv.below B0
  have g0 := hg.below B0
  have SK := (show Hid (∀ u, Below w0.heap.size w0 u → u.cell? ⟨w.heap.size, 0, none⟩ = some (.int .i64 x) ∧ u.cell? ⟨w.heap.size, 1, none⟩ = some (.int .i64 y) ∧ u.cell? ⟨w.heap.size + 1, 0, none⟩ = some (.int .i64 i) ∧ u.cell? ⟨w.heap.size + 1, 1, none⟩ = some (.slice ag g.length gap)) from fun u hu => ⟨(ra.below hu).cell (j := 0) rfl, (ra.below hu).cell (j := 1) rfl, (rb.below hu).cell (j := 0) rfl, (rb.below hu).cell (j := 1) rfl⟩)
  obtain ⟨a0, a1, a2, a3⟩ := SK.out w0 (Below.refl _ _)
  have HR := (show Hid (∀ u : World, Calls Tryz.prog 53 #[.int .i64 i] u fun e w' => e = .returned (.int .i64 (zHb i)) ∧ w' = u) from fun u => zJ7 u i)
  have HT := (show Hid (tot [zBp [k, x, y, s], l] ≤ 4000000) by show _ ≤ _; simp only [tot, zDn, List.length_cons, List.length_nil]; omega)
  go_wp2_with fail
  go_region_held3 (fun u => u.cell? ⟨w.heap.size, 0, none⟩ = some (.int .i64 x) ∧ u.cell? ⟨w.heap.size, 1, none⟩ = some (.int .i64 y) ∧ u.cell? ⟨w.heap.size + 1, 0, none⟩ = some (.int .i64 i) ∧ u.cell? ⟨w.heap.size + 1, 1, none⟩ = some (.slice ag g.length gap))
    (first | exact SK.out _ (by assumption) | go_keep)
    (first
      | (go_at_call 52; refine (zKq w3 (zHb i) _ g ⟨#[118, 111, 116, 101]⟩ v3 _ (g0.below hb3) r3 (by decide) HT.out).mono ?_; rintro e w4 ⟨rfl, hb4⟩; have hB4 : Below w0.heap.size w0 w4 := zA1 hb3 zN hb4)
      | (go_at_call 54; refine (zM5 w0.drew k x y s _ l (v0.below hdw)).mono ?_; rintro e w3 ⟨v3, rfl, r3, hb3'⟩; have hb3 : Below w0.heap.size w0 w3 := zA1 hdw zN hb3')
      | (go_at_call 53; refine (HR.out _).mono ?_; rintro e w2 ⟨rfl, rfl⟩))
  have B4 := zA1 B0 zN hB4
  go_wp2_with fail
  go_ret
  exact ⟨rfl, B4⟩
end
end Go.Proofs.YtgjepofinpmcpaaGreatDoor
