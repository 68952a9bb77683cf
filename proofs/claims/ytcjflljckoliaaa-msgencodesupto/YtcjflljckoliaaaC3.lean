/- The walks over the document's copies: messages. (Laid by mk5c.py.) -/
import Derived.Test.YtcjflljckoliaaaC2
set_option linter.unusedVariables false
namespace Go.Proofs.Ytcjflljckoliaaa
open Go.RowKit Oct

/-- Numbers as cells. -/
def ic (l : List Int) : List Value := l.map (Value.int .i64)
theorem ic_one (l : List Int) : ∀ u ∈ ic l, u.oneCell' = true := ints_oneCell .i64 l
theorem ints_rdv {G : Nat → Prop} {w : World} {v : Value} {ys : List Int} (h : RL RInt 1 G w v ys) : Rdv w v (ic ys) ∨ (ys = [] ∧ ∃ c, v = .slice none 0 c) := by
  by_cases hl : 0 < ys.length
  · left
    obtain ⟨b, off, cap, rfl, h1, h2, h3, h4, h5⟩ := h.at hl
    refine ⟨some ⟨b, off, none⟩, cap, by simp [ic], by simpa [ic] using h1, h2, fun e => (by cases e), fun a ha j u hu => ?_⟩
    cases ha
    rw [Addr.add_mid]
    simp only [ic, List.getElem?_map, Option.map_eq_some_iff] at hu
    obtain ⟨y, hy, rfl⟩ := hu
    obtain ⟨r, _, hr, he⟩ := h5 j y hy
    have he : r = [.int .i64 y] := he
    subst he
    have := hr 0 _ rfl
    simpa using this
  · obtain rfl : ys = [] := List.eq_nil_of_length_eq_zero (by omega)
    obtain ⟨ao, cap, rfl, hc⟩ := h.form
    cases ao with
    | none => exact .inr ⟨rfl, cap, rfl⟩
    | some ad => exact .inl ⟨some ad, cap, rfl, Nat.zero_le _, hc, fun e => (by cases e), fun b hb j u hu => by simp [ic] at hu⟩
theorem ints_rl {w : World} {v : Value} {ys : List Int} {B : Nat} (h : Own w 3 v (ic ys)) (hf : Fr B v) : RL RInt 1 (From B) w v ys := by
  have hflat : (ys.map fun y => [Value.int .i64 y]).flatten = ic ys := by
    clear h hf
    unfold ic
    induction ys with
    | nil => rfl
    | cons y ys ih => rw [List.map_cons, List.flatten_cons, ih]; rfl
  have hlen : (ic ys).length = (ys.map fun y => [Value.int .i64 y]).length := by simp [ic]
  have hall : ∀ l : List Int, All2 (RInt (fun b => B ≤ b ∧ v.ownBlock ≠ some b) w) (l.map fun y => [Value.int .i64 y]) l := fun l => by
    induction l with
    | nil => exact trivial
    | cons y l ih => exact ⟨rfl, ih⟩
  have hLB : LB RInt 3 1 B w v ys := ⟨ys.map fun y => [.int .i64 y], by intro r hr; obtain ⟨y, _, rfl⟩ := List.mem_map.1 hr; rfl, by rw [hflat, ← hlen]; exact h, hf, hall ys⟩
  exact hLB.rl mov_int
/-- 'append([]int{}, x...)': a copy. -/
theorem app_ints_copy {w : World} {ops : Array Oper} {rest : List Oper} {o : Oper} {a : Act} {Q : Exit → Act → World → Prop} (hgd : o.guard = none) (s x : Operand)
    (ho : o.op = .call { callee := .builtin .append, args := #[s, x], argTypes := #[28, 28] })
    (hs : a.eval s = .slice (some ⟨w.heap.size, 0, none⟩) 0 0) (sv : Value) (ys : List Int) (hx : a.eval x = sv) (hsrc : RL RInt 1 Any w sv ys) (hb : ys.length * 8 ≤ 140737488351232)
    (h : ∀ v' w', Own w' 3 v' (ic ys) → Fr w.heap.size v' → Below w.heap.size w w' → wpList Try.prog ops Q rest (a.put o.dst v') w') : wpList Try.prog ops Q (o :: rest) a (w.alloc (.cells #[] 3)) := by
  obtain ⟨i0, hi, hz0, hz1, hz2⟩ := info_parts Try.infoI
  have hsrc1 := hsrc.mv mov_int (below_alloc w (.cells #[] 3)).size (Mv.below (below_alloc w _))
  have hil : (ic ys).length = ys.length := by simp [ic]
  rcases ints_rdv hsrc1 with hr | ⟨rfl, c, rfl⟩
  case inr =>
    refine wpList_plain hgd fun K hK => ?_
    have hrun : (Builtin.append_ #[28, 28] o.type #[.slice (some ⟨w.heap.size, 0, none⟩) 0 0, .slice none 0 c]).run Try.prog (w.alloc (.cells #[] 3)) = .ok (.slice (some ⟨w.heap.size, 0, none⟩) 0 0) (w.alloc (.cells #[] 3)) := by
      simp [Builtin.append_, run_underlying Try.underlying28, sizeOf, typeInfo, hi, Builtin.lenOf, Builtin.firstCells, storeCells]
    unfold Oper.wp
    simp [execOp, ho, resolve, invoke, builtin, hs, hx, hrun, Result.andThen]
    exact hK _ _ (h _ _ (World.ownsRow_lit (base := 0) (size := 1) w #[] 0 (Nat.zero_le _) (by decide) rfl) (fr_at _ _ _ _ (Nat.le_refl _)) (below_alloc w _))
  refine wpList_app (wanted_none hgd) s x 28 ho 3 i0 (.int .i64 0) 8 Try.underlying28 hi hz0 hz1 hz2 rfl _ [] hs (World.ownsRow_lit (base := 0) (size := 1) w #[] 0 (Nat.zero_le _) (by decide) rfl) sv (ic ys) hx hr (ic_one _) (by rw [hil]; unfold maxLen; simp; omega) (by rw [hil]; simp; omega) ?_
  intro v' w' happ
  rw [List.nil_append] at happ
  have hp := happ.pre (below_alloc w _)
  exact h v' w' hp.own (happ.fr (fr_at _ _ _ _ (Nat.le_refl _)) (by simp)) ((below_alloc w _).trans (happ.below (fr_at _ _ _ _ (Nat.le_refl _)) (by simp)))


set_option maxRecDepth 20000 in
set_option maxHeartbeats 8000000 in
/-- Copy. -/
theorem copyMsg_any (w : World) (m : PMsg) (s : SV) (hs : SOk Any w m s) (hz : szM m) :
    Calls Try.prog 6 #[.agg (mc m s).toArray] w fun e w' => ∃ s', e = .returned (.agg (mc m s').toArray) ∧ SOk (From w.heap.size) w' m s' ∧ Below w.heap.size w w' := by
  obtain ⟨w2, hw2⟩ : ∃ w2, w2 = (w.alloc (.cells (mc m s).toArray 32)).alloc (.cells (mc zeroM sv0).toArray 32) := ⟨_, rfl⟩
  have ra : Row w2 w.heap.size 32 (mc m s) := by rw [hw2]; exact row_alloc (Row.new w 32 _) _
  have rr : Row w2 (w.heap.size + 1) 32 (mc zeroM sv0) := by
    rw [hw2]
    have := Row.new (w.alloc (.cells (mc m s).toArray 32)) 32 (mc zeroM sv0)
    simpa using this
  have hB2 : Below w.heap.size w w2 := by rw [hw2]; exact ((Below.refl _ w).alloc (Nat.le_refl _) _).alloc (by simp) _
  have h2 : w.heap.size + 2 ≤ w2.heap.size := by rw [hw2]; simp
  have hzr : ∀ v ∈ mc zeroM sv0, v.oneCell' = true := (SOk.zero Any w 0).one
  go_enter Try.func6, Try.ntmps6
  go_upto_region 1 with fail
  rw [show (Obj.cells #[Value.int .i64 0, .int .i64 0, .int .i64 0, .int .i64 0, .int .i64 0, .int .i64 0, .int .i64 0, .int .i64 0, .int .i64 0, .int .i64 0, .slice none 0 0, .slice none 0 0, .int .i64 0, .int .i64 0, .slice none 0 0, .slice none 0 0, .slice none 0 0, .slice none 0 0, .slice none 0 0, .slice none 0 0, .slice none 0 0, .slice none 0 0, .slice none 0 0] 32) = .cells (mc zeroM sv0).toArray 32 from rfl, ← hw2]
  clear hw2
  go_wp2_with (refine wl_part rfl _ _ rfl w.heap.size 8 rfl _ _ ra [.int .i64 m.req.1, .int .i64 m.req.2.1, s.o, s.g] rfl _ Try.underlying26 rfl (by kernel_rfl) ?_)
  refine (copyReq_any w2 [.int .i64 m.req.1, .int .i64 m.req.2.1, s.o, s.g] m.req ⟨_, _, rfl, hs.o.mv (Mv.below hB2), hs.g.mv (Mv.below hB2)⟩ hz.req).mono ?_
  rintro e w3 ⟨r3, rfl, hR3, hb3⟩
  obtain ⟨vo, vg, rfl, fo, fg⟩ := hR3
  have fo := fo.mv (Mv.weak (L := w.heap.size + 2) h2)
  have fg := fg.mv (Mv.weak (L := w.heap.size + 2) h2)
  have ra3 := ra.below hb3
  have rr3 := rr.below hb3
  have hB3 := below_and hB2 (Nat.le_refl _) hb3
  have h3 := Nat.le_trans h2 hb3.size
  clear ra rr
  go_wp2_with (first
    | (refine wl_put rfl _ _ _ rfl w.heap.size 8 [.int .i64 m.req.1, .int .i64 m.req.2.1, vo, vg] rfl rfl _ _ ra3 (show 12 ≤ 23 by decide) (by kernel_rfl) (one_RReq (G := From (w.heap.size + 2)) (w := w3) (x := m.req) ⟨_, _, rfl, fo, fg⟩) ?_; intro w4 hr4 hg4; have ra4 : Row w4 w.heap.size 32 (mc m { s with o := vo, g := vg }) := hr4.out)
    | (refine wl_part rfl _ _ rfl w.heap.size 12 rfl _ _ ra4 [.int .i64 m.oth.1, .int .i64 m.oth.2.1, s.o', s.g'] rfl _ Try.underlying26 rfl (by kernel_rfl) ?_))
  have rr4 := rr3.grown hg4 (fun e => by injection e with e; omega)
  have hB4 : Below w.heap.size w w4 := hB3.trans (grown_below hg4 hB3.size (fun k hk => by cases hk; exact Nat.le_refl _))
  have h4 := Nat.le_trans h3 hg4.size
  have fo := fo.mv (Mv.from (L := w.heap.size + 2) hg4 (by omega) (Nat.le_refl _))
  have fg := fg.mv (Mv.from (L := w.heap.size + 2) hg4 (by omega) (Nat.le_refl _))
  refine (copyReq_any w4 [.int .i64 m.oth.1, .int .i64 m.oth.2.1, s.o', s.g'] m.oth ⟨_, _, rfl, hs.o'.mv (Mv.below hB4), hs.g'.mv (Mv.below hB4)⟩ hz.oth).mono ?_
  rintro e w5 ⟨r5, rfl, hR5, hb5⟩
  obtain ⟨vo5, vg5, rfl, fo5, fg5⟩ := hR5
  have fo := fo.mv (Mv.belowG hb5)
  have fg := fg.mv (Mv.belowG hb5)
  have fo5 := fo5.mv (Mv.weak (L := w.heap.size + 2) h4)
  have fg5 := fg5.mv (Mv.weak (L := w.heap.size + 2) h4)
  have ra5 := ra4.below hb5
  have rr5 := rr4.below hb5
  have hB5 := below_and hB4 (Nat.le_refl _) hb5
  have h5 := Nat.le_trans h4 hb5.size
  clear ra4 rr4 ra3 rr3 hr4 hg4
  go_wp2_with (first
    | (refine wl_put rfl _ _ _ rfl w.heap.size 12 [.int .i64 m.oth.1, .int .i64 m.oth.2.1, vo5, vg5] rfl rfl _ _ ra5 (show 16 ≤ 23 by decide) (by kernel_rfl) (one_RReq (G := From (w.heap.size + 2)) (w := w5) (x := m.oth) ⟨_, _, rfl, fo5, fg5⟩) ?_; intro w6 hr6 hg6; have ra6 : Row w6 w.heap.size 32 (mc m { s with o := vo, g := vg, o' := vo5, g' := vg5 }) := hr6.out; have c6 := (row_alloc ra6 (.cells #[] 5)).cell (j := 16) rfl; have hB6 : Below w.heap.size w w6 := hB5.trans (grown_below hg6 hB5.size (fun k hk => by cases hk; exact Nat.le_refl _)); have hd6 := (hs.d.mv (Mv.below hB6)).1)
    | (at_builtin; refine app_copy rfl _ _ rfl rfl _ m.data rfl hd6 (Nat.le_trans hz.data (by decide)) ?_; intro v7 w7 hown7 hfr7 hb7; have ra7 := ra6.below hb7)
    | (refine wl_set rfl _ _ _ rfl w.heap.size 16 _ rfl rfl _ _ ra7 (show 16 < 23 by decide) (by kernel_rfl) (own_one' hown7) ?_; intro w8 hr8 hg8; have ra8 : Row w8 w.heap.size 32 (mc m { s with o := vo, g := vg, o' := vo5, g' := vg5, d := v7 }) := hr8.out; have c8 := (row_alloc ra8 (.cells #[] 5)).cell (j := 17) rfl; have hB7 := below_and hB6 (Nat.le_refl _) hb7; have hB8 : Below w.heap.size w w8 := hB7.trans (grown_below hg8 hB7.size (fun k hk => by cases hk; exact Nat.le_refl _)); have hd8 := (hs.s.mv (Mv.below hB8)).1)
    | (at_builtin; refine app_copy rfl _ _ rfl rfl _ m.sig rfl hd8 (Nat.le_trans hz.sig (by decide)) ?_; intro v9 w9 hown9 hfr9 hb9; have ra9 := ra8.below hb9)
    | (refine wl_set rfl _ _ _ rfl w.heap.size 17 _ rfl rfl _ _ ra9 (show 17 < 23 by decide) (by kernel_rfl) (own_one' hown9) ?_; intro w10 hr10 hg10; have ra10 : Row w10 w.heap.size 32 (mc m { s with o := vo, g := vg, o' := vo5, g' := vg5, d := v7, s := v9 }) := hr10.out; have c10 := ra10.cell (j := 18) rfl))
  have h6 := Nat.le_trans h5 hg6.size
  have h7 := Nat.le_trans h6 hb7.size
  have h8 := Nat.le_trans h7 hg8.size
  have h9 := Nat.le_trans h8 hb9.size
  have h10 := Nat.le_trans h9 hg10.size
  have fo := fo.mv (Mv.from (L := w.heap.size + 2) hg6 (by omega) (Nat.le_refl _))
  have fg := fg.mv (Mv.from (L := w.heap.size + 2) hg6 (by omega) (Nat.le_refl _))
  have fo5 := fo5.mv (Mv.from (L := w.heap.size + 2) hg6 (by omega) (Nat.le_refl _))
  have fg5 := fg5.mv (Mv.from (L := w.heap.size + 2) hg6 (by omega) (Nat.le_refl _))
  have fo := fo.mv (Mv.belowG hb7)
  have fg := fg.mv (Mv.belowG hb7)
  have fo5 := fo5.mv (Mv.belowG hb7)
  have fg5 := fg5.mv (Mv.belowG hb7)
  have fd : RT (From w6.heap.size) w7 v7 m.data := RT.own hown7 hd6.1 hfr7
  have fd := fd.mv (Mv.weak (L := w.heap.size + 2) h6)
  have fo := fo.mv (Mv.from (L := w.heap.size + 2) hg8 (by omega) (Nat.le_refl _))
  have fg := fg.mv (Mv.from (L := w.heap.size + 2) hg8 (by omega) (Nat.le_refl _))
  have fo5 := fo5.mv (Mv.from (L := w.heap.size + 2) hg8 (by omega) (Nat.le_refl _))
  have fg5 := fg5.mv (Mv.from (L := w.heap.size + 2) hg8 (by omega) (Nat.le_refl _))
  have fd := fd.mv (Mv.from (L := w.heap.size + 2) hg8 (by omega) (Nat.le_refl _))
  have fo := fo.mv (Mv.belowG hb9)
  have fg := fg.mv (Mv.belowG hb9)
  have fo5 := fo5.mv (Mv.belowG hb9)
  have fg5 := fg5.mv (Mv.belowG hb9)
  have fd := fd.mv (Mv.belowG hb9)
  have fs : RT (From w8.heap.size) w9 v9 m.sig := RT.own hown9 hd8.1 hfr9
  have fs := fs.mv (Mv.weak (L := w.heap.size + 2) h8)
  have fo := fo.mv (Mv.from (L := w.heap.size + 2) hg10 (by omega) (Nat.le_refl _))
  have fg := fg.mv (Mv.from (L := w.heap.size + 2) hg10 (by omega) (Nat.le_refl _))
  have fo5 := fo5.mv (Mv.from (L := w.heap.size + 2) hg10 (by omega) (Nat.le_refl _))
  have fg5 := fg5.mv (Mv.from (L := w.heap.size + 2) hg10 (by omega) (Nat.le_refl _))
  have fd := fd.mv (Mv.from (L := w.heap.size + 2) hg10 (by omega) (Nat.le_refl _))
  have fs := fs.mv (Mv.from (L := w.heap.size + 2) hg10 (by omega) (Nat.le_refl _))
  have rr10 := ((((rr5.grown hg6 (fun e => by injection e with e; omega)).below hb7).grown hg8 (fun e => by injection e with e; omega)).below hb9).grown hg10 (fun e => by injection e with e; omega)
  have hB9 := below_and hB8 (Nat.le_refl _) hb9
  have hB10 : Below w.heap.size w w10 := hB9.trans (grown_below hg10 hB9.size (fun k hk => by cases hk; exact Nat.le_refl _))
  clear rr5 ra5 ra6 ra7 ra8 ra9 hr6 hr8 hr10 hg6 hg8 hg10 hown7 hown9 hfr7 hfr9 hb7 hb9 c6 c8 hd6 hd8 hB5 hB6 hB7 hB8 hB9
  refine (copyVotes_any w10 s.c _ (hs.c.mv mov_vote hB10.size (Mv.below hB10)) hz.cert).mono ?_
  rintro e w11 ⟨v11, rfl, fc, hb11⟩
  have fc := fc.mv mov_vote (Nat.le_refl _) (Mv.weak (L := w.heap.size + 2) h10)
  have fo := fo.mv (Mv.belowG hb11)
  have fg := fg.mv (Mv.belowG hb11)
  have fo5 := fo5.mv (Mv.belowG hb11)
  have fg5 := fg5.mv (Mv.belowG hb11)
  have fd := fd.mv (Mv.belowG hb11)
  have fs := fs.mv (Mv.belowG hb11)
  have ra11 := ra10.below hb11
  have rr11 := rr10.below hb11
  have hB11 := below_and hB10 (Nat.le_refl _) hb11
  have h11 := Nat.le_trans h10 hb11.size
  have oc := fc.one
  clear ra10 rr10 c10
  go_wp2_with (refine wl_set rfl _ _ _ rfl w.heap.size 18 _ rfl rfl _ _ ra11 (show 18 < 23 by decide) (by kernel_rfl) oc ?_; intro w12 hr12 hg12; have ra12 : Row w12 w.heap.size 32 (mc m { s with o := vo, g := vg, o' := vo5, g' := vg5, d := v7, s := v9, c := v11 }) := hr12.out; have c12 := ra12.cell (j := 19) rfl)
  have rr12 := rr11.grown hg12 (fun e => by injection e with e; omega)
  have hB12 : Below w.heap.size w w12 := hB11.trans (grown_below hg12 hB11.size (fun k hk => by cases hk; exact Nat.le_refl _))
  have h12 := Nat.le_trans h11 hg12.size
  have fo := fo.mv (Mv.from (L := w.heap.size + 2) hg12 (by omega) (Nat.le_refl _))
  have fg := fg.mv (Mv.from (L := w.heap.size + 2) hg12 (by omega) (Nat.le_refl _))
  have fo5 := fo5.mv (Mv.from (L := w.heap.size + 2) hg12 (by omega) (Nat.le_refl _))
  have fg5 := fg5.mv (Mv.from (L := w.heap.size + 2) hg12 (by omega) (Nat.le_refl _))
  have fd := fd.mv (Mv.from (L := w.heap.size + 2) hg12 (by omega) (Nat.le_refl _))
  have fs := fs.mv (Mv.from (L := w.heap.size + 2) hg12 (by omega) (Nat.le_refl _))
  have fc := fc.mv mov_vote hg12.size (Mv.from (L := w.heap.size + 2) hg12 (by omega) (Nat.le_refl _))
  refine (copyVotes_any w12 s.v _ (hs.v.mv mov_vote hB12.size (Mv.below hB12)) hz.votes).mono ?_
  rintro e w13 ⟨v13, rfl, fv, hb13⟩
  have fv := fv.mv mov_vote (Nat.le_refl _) (Mv.weak (L := w.heap.size + 2) h12)
  have fo := fo.mv (Mv.belowG hb13)
  have fg := fg.mv (Mv.belowG hb13)
  have fo5 := fo5.mv (Mv.belowG hb13)
  have fg5 := fg5.mv (Mv.belowG hb13)
  have fd := fd.mv (Mv.belowG hb13)
  have fs := fs.mv (Mv.belowG hb13)
  have fc := fc.mv mov_vote hb13.size (Mv.belowG hb13)
  have ra13 := ra12.below hb13
  have rr13 := rr12.below hb13
  have hB13 := below_and hB12 (Nat.le_refl _) hb13
  have h13 := Nat.le_trans h12 hb13.size
  have ov := fv.one
  obtain ⟨xp, cp, hvp, _⟩ := hs.p.form
  clear ra11 rr11 ra12 rr12 hr12 hg12 c12 hB11 hB12
  go_wp2_with (first
    | (refine wl_set rfl _ _ _ rfl w.heap.size 19 _ rfl rfl _ _ ra13 (show 19 < 23 by decide) (by kernel_rfl) ov ?_; intro w14 hr14 hg14; have ra14 : Row w14 w.heap.size 32 (mc m { s with o := vo, g := vg, o' := vo5, g' := vg5, d := v7, s := v9, c := v11, v := v13 }) := hr14.out; have c14 := (row_alloc ra14 (.cells #[] 3)).cell (j := 20) rfl; have hB14 : Below w.heap.size w w14 := hB13.trans (grown_below hg14 hB13.size (fun k hk => by cases hk; exact Nat.le_refl _)); have hn14 := hs.n.mv mov_int hB14.size (Mv.below hB14))
    | (at_builtin; refine app_ints_copy rfl _ _ rfl rfl _ m.order rfl hn14 hz.order.1 ?_; intro v15 w15 hown15 hfr15 hb15; have ra15 := ra14.below hb15)
    | (refine wl_set rfl _ _ _ rfl w.heap.size 20 _ rfl rfl _ _ ra15 (show 20 < 23 by decide) (by kernel_rfl) (own_one' hown15) ?_; intro w16 hr16 hg16; have ra16 : Row w16 w.heap.size 32 (mc m { s with o := vo, g := vg, o' := vo5, g' := vg5, d := v7, s := v9, c := v11, v := v13, n := v15 }) := hr16.out; have c16 : (w16.alloc (.cells #[] 26)).cell? ⟨w.heap.size, 21, none⟩ = some (.slice xp m.picks.length cp) := by rw [← hvp]; exact (row_alloc ra16 (.cells #[] 26)).cell (j := 21) rfl))
  have h14 := Nat.le_trans h13 hg14.size
  have h15 := Nat.le_trans h14 hb15.size
  have h16 := Nat.le_trans h15 hg16.size
  have fo := fo.mv (Mv.from (L := w.heap.size + 2) hg14 (by omega) (Nat.le_refl _))
  have fg := fg.mv (Mv.from (L := w.heap.size + 2) hg14 (by omega) (Nat.le_refl _))
  have fo5 := fo5.mv (Mv.from (L := w.heap.size + 2) hg14 (by omega) (Nat.le_refl _))
  have fg5 := fg5.mv (Mv.from (L := w.heap.size + 2) hg14 (by omega) (Nat.le_refl _))
  have fd := fd.mv (Mv.from (L := w.heap.size + 2) hg14 (by omega) (Nat.le_refl _))
  have fs := fs.mv (Mv.from (L := w.heap.size + 2) hg14 (by omega) (Nat.le_refl _))
  have fc := fc.mv mov_vote hg14.size (Mv.from (L := w.heap.size + 2) hg14 (by omega) (Nat.le_refl _))
  have fv := fv.mv mov_vote hg14.size (Mv.from (L := w.heap.size + 2) hg14 (by omega) (Nat.le_refl _))
  have fo := fo.mv (Mv.belowG hb15)
  have fg := fg.mv (Mv.belowG hb15)
  have fo5 := fo5.mv (Mv.belowG hb15)
  have fg5 := fg5.mv (Mv.belowG hb15)
  have fd := fd.mv (Mv.belowG hb15)
  have fs := fs.mv (Mv.belowG hb15)
  have fc := fc.mv mov_vote hb15.size (Mv.belowG hb15)
  have fv := fv.mv mov_vote hb15.size (Mv.belowG hb15)
  have fn : RL RInt 1 (From w14.heap.size) w15 v15 m.order := ints_rl hown15 hfr15
  have fn := fn.mv mov_int (Nat.le_refl _) (Mv.weak (L := w.heap.size + 2) h14)
  have fo := fo.mv (Mv.from (L := w.heap.size + 2) hg16 (by omega) (Nat.le_refl _))
  have fg := fg.mv (Mv.from (L := w.heap.size + 2) hg16 (by omega) (Nat.le_refl _))
  have fo5 := fo5.mv (Mv.from (L := w.heap.size + 2) hg16 (by omega) (Nat.le_refl _))
  have fg5 := fg5.mv (Mv.from (L := w.heap.size + 2) hg16 (by omega) (Nat.le_refl _))
  have fd := fd.mv (Mv.from (L := w.heap.size + 2) hg16 (by omega) (Nat.le_refl _))
  have fs := fs.mv (Mv.from (L := w.heap.size + 2) hg16 (by omega) (Nat.le_refl _))
  have fc := fc.mv mov_vote hg16.size (Mv.from (L := w.heap.size + 2) hg16 (by omega) (Nat.le_refl _))
  have fv := fv.mv mov_vote hg16.size (Mv.from (L := w.heap.size + 2) hg16 (by omega) (Nat.le_refl _))
  have fn := fn.mv mov_int hg16.size (Mv.from (L := w.heap.size + 2) hg16 (by omega) (Nat.le_refl _))
  have rr16 := ((rr13.grown hg14 (fun e => by injection e with e; omega)).below hb15).grown hg16 (fun e => by injection e with e; omega)
  have hB15 := below_and hB14 (Nat.le_refl _) hb15
  have hB16 : Below w.heap.size w w16 := hB15.trans (grown_below hg16 hB15.size (fun k hk => by cases hk; exact Nat.le_refl _))
  have hlmp : (m.picks.length : Int) ≤ 9223372036854775807 := rl_len hs.p
  have hlml : (m.reps.length : Int) ≤ 9223372036854775807 := rl_len hs.l
  have HVP := (show Hid _ from hvp)
  clear rr13 ra13 ra14 ra15 hr14 hr16 hg14 hg16 hown15 hfr15 hb15 c14 c16 hn14 hB13 hB14 hB15 hvp oc ov h3 h4 h5 h6 h7 h8 h9 h10 h11 h12 h13 h14 h15 hB2 hB3 hB4 hB10
  go_loopw [3, 44] (fun v i wr => ∃ q : Nat, q ≤ m.picks.length ∧ i = .int .i64 q ∧ LB RReq 26 4 w16.heap.size wr v (m.picks.take q) ∧ Below w16.heap.size w16 wr) (fun _ i _ => m.picks.length - (intOf i).toNat)
  case atStart => exact ⟨0, by omega, rfl, LB.fresh _ _ _ _ _ (Nat.le_refl _), below_alloc w16 _⟩
  case round =>
    obtain ⟨q, hq, rfl, hLB, hbr⟩ := hrel
    have hBr := below_and hB16 (Nat.le_refl _) hbr
    by_cases hql : q < m.picks.length
    · obtain ⟨a, ha⟩ : ∃ a, m.picks[q]? = some a := ⟨_, List.getElem?_eq_getElem hql⟩
      obtain ⟨bb, off, cap, hw1, _, _, _, hbb, hx1⟩ := hs.p.at (by omega)
      rw [HVP.out] at hw1
      injection hw1 with e1 e2 e3
      clear e2
      subst e1 e3
      obtain ⟨r1, hrl1, y1, hr1⟩ := hx1 q a ha
      have hza := hz.picks.2 a (List.mem_of_getElem? ha)
      have hrng := rangeAt_block y1 (hBr.block bb hbb)
      have HA := (show Hid (m.picks.take (q + 1) = m.picks.take q ++ [a]) from take_snoc' _ q a ha)
      have HTL := (show Hid ((m.picks.take q).length = q) from take_len (by omega))
      have k1 := one_RReq hr1
      have HR := (show Hid (RReq Any w r1 a) from hr1)
      obtain ⟨vo1, vg1, rfl, _, _⟩ := hr1
      have hrow0 := Row.new wr 26 [.int .i64 0, .int .i64 0, .slice none 0 0, .slice none 0 0]
      clear ha hx1 y1 hrl1
      go_wp2_with (first
        | (refine wpList_load_mid rfl _ _ rfl bb (off + q * 4) rfl [.int .i64 a.1, .int .i64 a.2.1, vo1, vg1] _ hrng Try.underlying26 rfl (by kernel_rfl) ?_)
        | (refine wl_store rfl _ _ _ rfl wr.heap.size [.int .i64 a.1, .int .i64 a.2.1, vo1, vg1] rfl rfl _ _ hrow0 rfl (by kernel_rfl) k1 ?_; intro w21 hr21 hg21)
        | (refine wl_load rfl _ _ rfl wr.heap.size rfl _ _ hr21.out _ Try.underlying26 rfl (by kernel_rfl) ?_))
      have hb21 : Below wr.heap.size wr w21 := (below_alloc wr (.cells ([.int .i64 0, .int .i64 0, .slice none 0 0, .slice none 0 0] : List Value).toArray 26)).trans (grown_below hg21 (by simp) (fun k hk => by cases hk; exact Nat.le_refl _))
      have hB21 := below_and hBr (Nat.le_refl _) hb21
      refine (copyReq_any w21 [.int .i64 a.1, .int .i64 a.2.1, vo1, vg1] a (mov_req _ _ _ _ _ _ HR.out hB21.size (Mv.below hB21)) hza).mono ?_
      rintro e w22 ⟨r22, rfl, hR22, hb22⟩
      have k22 := one_RReq hR22
      have l22 : r22.length = 4 := len_RReq hR22
      have hR22' := hR22
      obtain ⟨q1, q2, rfl, _, _⟩ := hR22'
      have hb1 := below_and (below_and hbr (Nat.le_refl _) hb21) (Nat.le_refl _) hb22
      have hLB22 := (hLB.below mov_req hb21).below mov_req hb22
      have hlt21 := (hLB.below mov_req hb21).lt
      have hws : w16.heap.size ≤ w21.heap.size := Nat.le_trans hbr.size hb21.size
      clear hrng hrow0 hr21 hg21
      go_wp2_with (at_builtin; refine wl_push mov_req rfl _ _ _ rfl 26 4 64 _ Try.underlying29 Try.inf_reqs rfl (by decide) w16.heap.size u3 (m.picks.take q) rfl hLB22 [.int .i64 a.1, .int .i64 a.2.1, q1, q2] a w21.heap.size hR22 l22 k22 hws hlt21 rfl (Nat.le_trans hws hb22.size) (by rw [HTL.out]; have := hz.picks.1; omega) (by decide) ?_; intro v23 w23 hLB23 hg23)
      rw [← HA.out] at hLB23
      have hb23 := hb1.trans (grown_below hg23 hb1.size (fun k hk => hLB.fr k hk))
      go_roundw
      case rel => exact ⟨q + 1, by omega, by go_num, hLB23, hb23⟩
      case measure => simp [intOf]; omega
    · obtain rfl : q = m.picks.length := by omega
      rw [List.take_length] at hLB
      have fp := hLB.rl mov_req
      have fp := fp.mv mov_req (Nat.le_refl _) (Mv.weak (L := w.heap.size + 2) h16)
      have op := hLB.form
      have ra17 := ra16.below hbr
      have rr17 := rr16.below hbr
      have h17 := Nat.le_trans h16 hbr.size
      have fo := fo.mv (Mv.belowG hbr)
      have fg := fg.mv (Mv.belowG hbr)
      have fo5 := fo5.mv (Mv.belowG hbr)
      have fg5 := fg5.mv (Mv.belowG hbr)
      have fd := fd.mv (Mv.belowG hbr)
      have fs := fs.mv (Mv.belowG hbr)
      have fc := fc.mv mov_vote hbr.size (Mv.belowG hbr)
      have fv := fv.mv mov_vote hbr.size (Mv.belowG hbr)
      have fn := fn.mv mov_int hbr.size (Mv.belowG hbr)
      obtain ⟨xl, cl, hvl, _⟩ := hs.l.form
      clear ra16 rr16 hLB hql hq
      go_wp2_with (refine wl_set rfl _ _ _ rfl w.heap.size 21 _ rfl rfl _ _ ra17 (show 21 < 23 by decide) (by kernel_rfl) op ?_; intro w18 hr18 hg18; have ra18 : Row w18 w.heap.size 32 (mc m { s with o := vo, g := vg, o' := vo5, g' := vg5, d := v7, s := v9, c := v11, v := v13, n := v15, p := u3 }) := hr18.out; have c18 : (w18.alloc (.cells #[] 52)).cell? ⟨w.heap.size, 22, none⟩ = some (.slice xl m.reps.length cl) := by rw [← hvl]; exact (row_alloc ra18 (.cells #[] 52)).cell (j := 22) rfl)
      have rr18 := rr17.grown hg18 (fun e => by injection e with e; omega)
      have hB18 : Below w.heap.size w w18 := hBr.trans (grown_below hg18 hBr.size (fun k hk => by cases hk; exact Nat.le_refl _))
      have h18 := Nat.le_trans h17 hg18.size
      have fo := fo.mv (Mv.from (L := w.heap.size + 2) hg18 (by omega) (Nat.le_refl _))
      have fg := fg.mv (Mv.from (L := w.heap.size + 2) hg18 (by omega) (Nat.le_refl _))
      have fo5 := fo5.mv (Mv.from (L := w.heap.size + 2) hg18 (by omega) (Nat.le_refl _))
      have fg5 := fg5.mv (Mv.from (L := w.heap.size + 2) hg18 (by omega) (Nat.le_refl _))
      have fd := fd.mv (Mv.from (L := w.heap.size + 2) hg18 (by omega) (Nat.le_refl _))
      have fs := fs.mv (Mv.from (L := w.heap.size + 2) hg18 (by omega) (Nat.le_refl _))
      have fc := fc.mv mov_vote hg18.size (Mv.from (L := w.heap.size + 2) hg18 (by omega) (Nat.le_refl _))
      have fv := fv.mv mov_vote hg18.size (Mv.from (L := w.heap.size + 2) hg18 (by omega) (Nat.le_refl _))
      have fn := fn.mv mov_int hg18.size (Mv.from (L := w.heap.size + 2) hg18 (by omega) (Nat.le_refl _))
      have fp := fp.mv mov_req hg18.size (Mv.from (L := w.heap.size + 2) hg18 (by omega) (Nat.le_refl _))
      have HVL := (show Hid _ from hvl)
      clear ra17 rr17 hr18 hg18 c18 hvl hBr hbr h16 h17 hB16 op
      go_loopw [6, 60] (fun v i wr => ∃ q : Nat, q ≤ m.reps.length ∧ i = .int .i64 q ∧ LB RRep 52 8 w18.heap.size wr v (m.reps.take q) ∧ Below w18.heap.size w18 wr) (fun _ i _ => m.reps.length - (intOf i).toNat)
      case atStart => exact ⟨0, by omega, rfl, LB.fresh _ _ _ _ _ (Nat.le_refl _), below_alloc w18 _⟩
      case round =>
        obtain ⟨q, hq, rfl, hLB, hbr⟩ := hrel
        have hBr := below_and hB18 (Nat.le_refl _) hbr
        by_cases hql : q < m.reps.length
        · obtain ⟨a, ha⟩ : ∃ a, m.reps[q]? = some a := ⟨_, List.getElem?_eq_getElem hql⟩
          obtain ⟨bb, off, cap, hw1, _, _, _, hbb, hx1⟩ := hs.l.at (by omega)
          rw [HVL.out] at hw1
          injection hw1 with e1 e2 e3
          clear e2
          subst e1 e3
          obtain ⟨r1, hrl1, y1, hr1⟩ := hx1 q a ha
          have hza := hz.reps.2 a (List.mem_of_getElem? ha)
          have hrng := rangeAt_block y1 (hBr.block bb hbb)
          have HA := (show Hid (m.reps.take (q + 1) = m.reps.take q ++ [a]) from take_snoc' _ q a ha)
          have HTL := (show Hid ((m.reps.take q).length = q) from take_len (by omega))
          have k1 := one_RRep hr1
          have HR := (show Hid (RRep Any w r1 a) from hr1)
          obtain ⟨vd1, vs1, vp1, vg1, rfl, _, _, _, _⟩ := hr1
          have hrow0 := Row.new wr 52 [.int .i64 0, .int .i64 0, .int .i64 0, .int .i64 0, .slice none 0 0, .slice none 0 0, .slice none 0 0, .slice none 0 0]
          clear ha hx1 y1 hrl1
          go_wp2_with (first
            | (refine wpList_load_mid rfl _ _ rfl bb (off + q * 8) rfl [.int .i64 a.1.1, .int .i64 a.1.2, .int .i64 a.2.1, .int .i64 a.2.2.1, vd1, vs1, vp1, vg1] _ hrng Try.underlying52 rfl (by kernel_rfl) ?_)
            | (refine wl_store rfl _ _ _ rfl wr.heap.size [.int .i64 a.1.1, .int .i64 a.1.2, .int .i64 a.2.1, .int .i64 a.2.2.1, vd1, vs1, vp1, vg1] rfl rfl _ _ hrow0 rfl (by kernel_rfl) k1 ?_; intro w21 hr21 hg21)
            | (refine wl_load rfl _ _ rfl wr.heap.size rfl _ _ hr21.out _ Try.underlying52 rfl (by kernel_rfl) ?_))
          have hb21 : Below wr.heap.size wr w21 := (below_alloc wr (.cells ([.int .i64 0, .int .i64 0, .int .i64 0, .int .i64 0, .slice none 0 0, .slice none 0 0, .slice none 0 0, .slice none 0 0] : List Value).toArray 52)).trans (grown_below hg21 (by simp) (fun k hk => by cases hk; exact Nat.le_refl _))
          have hB21 := below_and hBr (Nat.le_refl _) hb21
          refine (copyReport_any w21 [.int .i64 a.1.1, .int .i64 a.1.2, .int .i64 a.2.1, .int .i64 a.2.2.1, vd1, vs1, vp1, vg1] a (mov_rep _ _ _ _ _ _ HR.out hB21.size (Mv.below hB21)) hza).mono ?_
          rintro e w22 ⟨r22, rfl, hR22, hb22⟩
          have k22 := one_RRep hR22
          have l22 : r22.length = 8 := len_RRep hR22
          have hR22' := hR22
          obtain ⟨q1, q2, q3, q4, rfl, _, _, _, _⟩ := hR22'
          have hb1 := below_and (below_and hbr (Nat.le_refl _) hb21) (Nat.le_refl _) hb22
          have hLB22 := (hLB.below mov_rep hb21).below mov_rep hb22
          have hlt21 := (hLB.below mov_rep hb21).lt
          have hws : w18.heap.size ≤ w21.heap.size := Nat.le_trans hbr.size hb21.size
          clear hrng hrow0 hr21 hg21
          go_wp2_with (at_builtin; refine wl_push mov_rep rfl _ _ _ rfl 52 8 128 _ Try.underlying30 Try.inf_reps rfl (by decide) w18.heap.size u6 (m.reps.take q) rfl hLB22 [.int .i64 a.1.1, .int .i64 a.1.2, .int .i64 a.2.1, .int .i64 a.2.2.1, q1, q2, q3, q4] a w21.heap.size hR22 l22 k22 hws hlt21 rfl (Nat.le_trans hws hb22.size) (by rw [HTL.out]; have := hz.reps.1; omega) (by decide) ?_; intro v23 w23 hLB23 hg23)
          rw [← HA.out] at hLB23
          have hb23 := hb1.trans (grown_below hg23 hb1.size (fun k hk => hLB.fr k hk))
          go_roundw
          case rel => exact ⟨q + 1, by omega, by go_num, hLB23, hb23⟩
          case measure => simp [intOf]; omega
        · obtain rfl : q = m.reps.length := by omega
          rw [List.take_length] at hLB
          have fl' := hLB.rl mov_rep
          have fl' := fl'.mv mov_rep (Nat.le_refl _) (Mv.weak (L := w.heap.size + 2) h18)
          have ol := hLB.form
          have ra19 := ra18.below hbr
          have rr19 := rr18.below hbr
          have h19 := Nat.le_trans h18 hbr.size
          have fo := fo.mv (Mv.belowG hbr)
          have fg := fg.mv (Mv.belowG hbr)
          have fo5 := fo5.mv (Mv.belowG hbr)
          have fg5 := fg5.mv (Mv.belowG hbr)
          have fd := fd.mv (Mv.belowG hbr)
          have fs := fs.mv (Mv.belowG hbr)
          have fc := fc.mv mov_vote hbr.size (Mv.belowG hbr)
          have fv := fv.mv mov_vote hbr.size (Mv.belowG hbr)
          have fn := fn.mv mov_int hbr.size (Mv.belowG hbr)
          have fp := fp.mv mov_req hbr.size (Mv.belowG hbr)
          have hso : SOk (From (w.heap.size + 2)) wr m { s with o := vo, g := vg, o' := vo5, g' := vg5, d := v7, s := v9, c := v11, v := v13, n := v15, p := u3, l := u6 } := ⟨fo, fg, fo5, fg5, fd, fs, fc, fv, fn, fp, fl'⟩
          have hone := hso.one
          go_wp2_with (first
            | (refine wl_set rfl _ _ _ rfl w.heap.size 22 _ rfl rfl _ _ ra19 (show 22 < 23 by decide) (by kernel_rfl) ol ?_; intro wx hrx hgx; have rax : Row wx w.heap.size 32 (mc m { s with o := vo, g := vg, o' := vo5, g' := vg5, d := v7, s := v9, c := v11, v := v13, n := v15, p := u3, l := u6 }) := hrx.out; have rrx := rr19.grown hgx (fun e => by injection e with e; omega))
            | (refine wl_load rfl _ _ rfl w.heap.size rfl _ _ rax _ Try.underlying32 rfl (by kernel_rfl) ?_)
            | (refine wl_store rfl _ _ _ rfl (w.heap.size + 1) (mc m { s with o := vo, g := vg, o' := vo5, g' := vg5, d := v7, s := v9, c := v11, v := v13, n := v15, p := u3, l := u6 }) rfl rfl _ _ rrx rfl (by kernel_rfl) hone ?_; intro wy hry hgy))
          have hry := hry.out
          have hsx := hso.mv hgx.size (Mv.from (L := w.heap.size + 2) hgx (by omega) (Nat.le_refl _))
          have hsy := hsx.mv hgy.size (Mv.from (L := w.heap.size) hgy (by omega) (by omega))
          have hBx := hBr.trans (grown_below hgx hBr.size (fun k hk => by cases hk; exact Nat.le_refl _))
          have hBy := hBx.trans (grown_below hgy hBx.size (fun k hk => by cases hk; omega))
          refine bodyPost_ret (v := .agg (mc m { s with o := vo, g := vg, o' := vo5, g' := vg5, d := v7, s := v9, c := v11, v := v13, n := v15, p := u3, l := u6 }).toArray) (results_cell_row rfl _ _ (w.heap.size + 1) _ _ (0, 0) _ (by rfl) hry Try.underlying32 rfl (by kernel_rfl)) rfl ?_
          exact ⟨_, rfl, hsy, hBy⟩
end Go.Proofs.Ytcjflljckoliaaa
