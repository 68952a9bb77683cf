/- Lists of records that are being built, inside regions that draw their order; how great plain records may be; copies of texts and requests. -/
import Derived.Test.YtgbfmccecnfooaaGreatDoorCLAH
import Derived.Deep.Cut
set_option linter.unusedVariables false
namespace Go.Proofs.YtgbfmccecnfooaaGreatDoor
open Go.RowKit Oct
section
variable {P : Program}
/-- One more record: 'x = append(x, r)'. -/
theorem wp_push {α : Type} {R : (Nat → Prop) → World → List Value → α → Prop} (hR : Mov R) {w : World} {o : Oper} {a : Act} {K : Act → World → Prop} {Q : Exit → Act → World → Prop} (s x : Operand) (t : TypeId)
    (ho : o.op = .call { callee := .builtin .append, args := #[s, x], argTypes := #[t, t] }) (e : TypeId) (k bytes : Nat) (z : Value) (ht : P.underlying t = some (.slice e)) (hi : (P.info? e).map (fun i => (i.zero, i.size, i.bytes)) = some (some z, k, bytes))
    (hzs : z.cells.size = k) (hk : 0 < k) (B : Nat) (v : Value) (ys : List α) (hs : a.eval s = v) (hL : LB R e k B w v ys) (r : List Value) (y : α) (C : Nat) (hr : R (From C) w r y) (hrl : r.length = k) (h1 : ∀ u ∈ r, u.oneCell' = true)
    (hC : B ≤ C) (hCv : ∀ g, v.ownBlock = some g → g < C) (hx : a.eval x = .slice (some ⟨w.heap.size, 0, none⟩) 1 1) (hB : B ≤ w.heap.size)
    (hb : (ys.length + 1) * bytes ≤ 140737488355328) (hb0 : 1 ≤ bytes)
    (h : ∀ v' w', LB R e k B w' v' (ys ++ [y]) → w.grownBy w' v.ownBlock → K (a.put o.dst v') w') : o.wp P a (w.alloc (.cells r.toArray e)) K Q := by
  obtain ⟨i0, hi, hz0, hz1, hz2⟩ := info_parts hi
  obtain ⟨rows, h0, hown, hfr, hall⟩ := hL
  have hlen := hall.len
  have hbel := below_alloc w (.cells r.toArray e)
  have hown1 : (w.alloc (.cells r.toArray e)).ownsRow 0 e k v rows.length rows.flatten := World.ownsRow.kept (row := none) hown ⟨hbel.os, hbel.tape, hbel.output, hbel.size, fun k hk _ => hbel.block k hk⟩ (by cases hv : v.ownBlock <;> simp)
  have hmul : ys.length + 1 ≤ (ys.length + 1) * bytes := Nat.le_mul_of_pos_right _ hb0
  refine wp_append_lies (w.alloc (.cells r.toArray e)) s x t ho 0 e i0 z k bytes ht hi hz0 hz1 hz2 hzs hk v rows.length rows.flatten hs hown1 ⟨w.heap.size, 0, none⟩ 1 1 r hx (by omega)
    (fun j u hj => by
      rw [Addr.add_mid, Nat.zero_add]
      exact (Row.new w e r).cell hj) h1 (by omega) (by rw [hlen]; unfold maxLen; omega) (by rw [hlen]; exact hb) (Nat.zero_le _) (w.heap.size + 1) (by simp) ?_
  intro g cap w' hown' hgr hat hlt
  have hg0 : w.grownBy w' v.ownBlock := grown_trans (grown_of_below hbel _) hgr (.inl rfl)
  have hgB : B ≤ g := by
    rcases hat with hat | hat
    · exact hfr g hat
    · omega
  have hflat : rows.flatten ++ r = (rows ++ [r]).flatten := by simp
  refine h _ w' ⟨rows ++ [r], ?_, ?_, ?_, ?_⟩ hg0
  · intro q hq
    rcases List.mem_append.1 hq with hq | hq
    · exact h0 q hq
    · simp at hq; subst hq; exact hrl
  · rw [List.length_append, ← hflat]
    exact hown'
  · exact fun j hj => by simp [Value.ownBlock] at hj; omega
  · have hold : All2 (R (fun b => B ≤ b ∧ (Value.slice (some ⟨g, 0, none⟩) (rows.length + 1) cap).ownBlock ≠ some b) w') rows ys := hall.mono fun q b hq => hR _ _ w w' q b hq hg0.size fun j hj hjl => by
      refine ⟨hg0.block j hjl (fun e => hj.2 e.symm), hj.1, fun e => ?_⟩
      simp [Value.ownBlock] at e
      rcases hat with hat | hat
      · exact hj.2 (by rw [hat, e])
      · omega
    have hnew : R (fun b => B ≤ b ∧ (Value.slice (some ⟨g, 0, none⟩) (rows.length + 1) cap).ownBlock ≠ some b) w' r y := hR _ _ w w' r y hr hg0.size fun j hj hjl => by
      unfold From at hj
      refine ⟨hg0.block j hjl (fun e => by have := hCv j e.symm; omega), by omega, fun e => ?_⟩
      simp [Value.ownBlock] at e
      rcases hat with hat | hat
      · have := hCv g hat; omega
      · omega
    exact All2.app hold ⟨hnew, trivial⟩
/-- The same at a step of a region that draws its order. -/
theorem step_push {α : Type} {R : (Nat → Prop) → World → List Value → α → Prop} (hR : Mov R) {w : World} {ops : Array Oper} {o : Oper} {a : Act} {K : Act → World → Prop} {Q : Exit → Act → World → Prop} {E : Prop} (hgd : o.guard = none) (s x : Operand) (t : TypeId)
    (ho : o.op = .call { callee := .builtin .append, args := #[s, x], argTypes := #[t, t] }) (e : TypeId) (k bytes : Nat) (z : Value) (ht : P.underlying t = some (.slice e)) (hi : (P.info? e).map (fun i => (i.zero, i.size, i.bytes)) = some (some z, k, bytes))
    (hzs : z.cells.size = k) (hk : 0 < k) (B : Nat) (v : Value) (ys : List α) (hs : a.eval s = v) (hL : LB R e k B w v ys) (r : List Value) (y : α) (C : Nat) (hr : R (From C) w r y) (hrl : r.length = k) (h1 : ∀ u ∈ r, u.oneCell' = true)
    (hC : B ≤ C) (hCv : ∀ g, v.ownBlock = some g → g < C) (hx : a.eval x = .slice (some ⟨w.heap.size, 0, none⟩) 1 1) (hB : B ≤ w.heap.size)
    (hb : (ys.length + 1) * bytes ≤ 140737488355328) (hb0 : 1 ≤ bytes)
    (h : ∀ v' w', LB R e k B w' v' (ys ++ [y]) → w.grownBy w' v.ownBlock → K (a.put o.dst v') w') :
    if Region.wanted o (yielded ops a.tmps) = true then Oper.wp P o a (w.alloc (.cells r.toArray e)) K Q else E := by
  have hw : Region.wanted o (yielded ops a.tmps) = true := by simp [Region.wanted, hgd]
  rw [if_pos hw]
  exact wp_push hR s x t ho e k bytes z ht hi hzs hk B v ys hs hL r y C hr hrl h1 hC hCv hx hB hb hb0 h
end
/-! How great what comes in may be. -/
def szT (l : List Int) : Prop := l.length ≤ 140737488351232
def szL {α : Type} (b : Nat) (p : α → Prop) (ys : List α) : Prop := ys.length * b ≤ 140737488351232 ∧ ∀ y ∈ ys, p y
def szV (x : PVote) : Prop := szT x.2
def szQ (x : PReq) : Prop := szT x.2.2.1 ∧ szT x.2.2.2
def szP (x : PPrep) : Prop := szQ x.2.2.1 ∧ szL 32 szV x.2.2.2
def szR (x : PRep) : Prop := szT x.2.2.2.1 ∧ szL 32 szV x.2.2.2.2.1 ∧ szL 112 szP x.2.2.2.2.2.1 ∧ szT x.2.2.2.2.2.2
structure szM (m : PMsg) : Prop where
  req : szQ m.req
  oth : szQ m.oth
  data : szT m.data
  sig : szT m.sig
  cert : szL 32 szV m.cert
  votes : szL 32 szV m.votes
  order : szL 8 (fun _ => True) m.order
  picks : szL 64 szQ m.picks
  reps : szL 128 szR m.reps
theorem own1 {w : World} {e : TypeId} {v : Value} {xs : List Value} (h : Own w e v xs) : v.oneCell' = true := by
  obtain ⟨ao, cap, rfl, _⟩ := h.form; rfl
theorem rowA {w : World} {b : Nat} {t : TypeId} {xs : List Value} (h : Row w b t xs) (o : Obj) : Row (w.alloc o) b t xs := h.below (below_alloc w o)
theorem one4 {a b : Int} {u v : Value} (hu : u.oneCell' = true) (hv : v.oneCell' = true) : ∀ x ∈ [Value.int .i64 a, Value.int .i64 b, u, v], x.oneCell' = true := by
  intro x hx
  simp only [List.mem_cons, List.not_mem_nil, or_false] at hx
  rcases hx with rfl | rfl | rfl | rfl <;> first | rfl | assumption
set_option maxRecDepth 10000 in
set_option maxHeartbeats 2000000 in
/-- CopyReq. -/
theorem copyReq_any (w : World) (r : List Value) (x : PReq) (h : RReq Any w r x) (hz : szQ x) :
    Calls Tryz.prog 29 #[.agg r.toArray] w fun e w' => ∃ r', e = .returned (.agg r'.toArray) ∧ RReq (From w.heap.size) w' r' x ∧ Below w.heap.size w w' := by
  obtain ⟨vo, vg, rfl, ho, hg⟩ := h
  obtain ⟨z1, z2⟩ := hz
  obtain ⟨w2, hw2⟩ : ∃ w2, w2 = (w.alloc (.cells #[.int .i64 x.1, .int .i64 x.2.1, vo, vg] 62)).alloc (.cells #[.int .i64 0, .int .i64 0, .slice none 0 0, .slice none 0 0] 62) := ⟨_, rfl⟩
  have ra : Row w2 w.heap.size 62 [.int .i64 x.1, .int .i64 x.2.1, vo, vg] := by rw [hw2]; exact rowA (Row.new w 62 _) _
  have rr : Row w2 (w.heap.size + 1) 62 [.int .i64 0, .int .i64 0, .slice none 0 0, .slice none 0 0] := by
    rw [hw2]
    have := Row.new (w.alloc (.cells #[.int .i64 x.1, .int .i64 x.2.1, vo, vg] 62)) 62 [.int .i64 0, .int .i64 0, .slice none 0 0, .slice none 0 0]
    simpa using this
  have hB : Below w.heap.size w w2 := by rw [hw2]; exact ((Below.refl _ w).alloc (Nat.le_refl _) _).alloc (by simp) _
  have hsz : w2.heap.size = w.heap.size + 2 := by rw [hw2]; simp
  go_enter Tryz.func29, Tryz.ntmps29
  go_upto_region 1 with fail
  rw [← hw2]
  clear hw2
  have HS := (show Hid (w2.heap.size = w.heap.size + 2) from hsz)
  clear hsz
  have c2 := (rowA ra (.cells #[] 5)).cell (j := 2) rfl
  have ho2 := (ho.mv (Mv.below hB)).1
  go_wp2_with (first
    | (at_builtin; refine app_copy rfl _ _ rfl rfl _ x.2.2.1 rfl ho2 (Nat.le_trans z1 (by decide)) ?_; intro v3 w3 hown3 hfr3 hb3; have ra3 := ra.below hb3)
    | (refine wl_set rfl _ _ _ rfl w.heap.size 2 _ rfl rfl _ _ ra3 (show 2 < 4 by decide) (by kernel_rfl) (own1 hown3) ?_; intro w4 ra4 hg4; have ra4' : Row w4 w.heap.size 62 [.int .i64 x.1, .int .i64 x.2.1, v3, vg] := ra4.out; have c3 := (rowA ra4' (.cells #[] 5)).cell (j := 3) rfl; have hB3 := below_and hB (Nat.le_refl _) hb3; have hB4 : Below w.heap.size w w4 := hB3.trans (grown_below hg4 hB3.size (fun k hk => by cases hk; exact Nat.le_refl _)); have hg2 := (hg.mv (Mv.below hB4)).1)
    | (at_builtin; refine app_copy rfl _ _ rfl rfl _ x.2.2.2 rfl hg2 (Nat.le_trans z2 (by decide)) ?_; intro v5 w5 hown5 hfr5 hb5; have ra5 := ra4'.below hb5)
    | (refine wl_set rfl _ _ _ rfl w.heap.size 3 _ rfl rfl _ _ ra5 (show 3 < 4 by decide) (by kernel_rfl) (own1 hown5) ?_; intro w6 ra6 hg6; have ra6' : Row w6 w.heap.size 62 [.int .i64 x.1, .int .i64 x.2.1, v3, v5] := ra6.out; have rr6 := (((rr.below hb3).grown hg4 (fun e => by injection e with e; omega)).below hb5).grown hg6 (fun e => by injection e with e; omega))
    | (refine wl_load rfl _ _ rfl w.heap.size rfl _ _ ra6' _ Tryz.underlying62 rfl (by kernel_rfl) ?_)
    | (refine wl_store rfl _ _ _ rfl (w.heap.size + 1) [.int .i64 x.1, .int .i64 x.2.1, v3, v5] rfl rfl _ _ rr6 rfl (by kernel_rfl) (one4 (own1 hown3) (own1 hown5)) ?_; intro w7 hr7 hg7))
  have hs2 := HS.out
  have f3 : RT (From w2.heap.size) w3 v3 x.2.2.1 := RT.own hown3 ho2.1 hfr3
  have f4 := f3.mv (Mv.from (L := w.heap.size + 2) hg4 (by omega) (by omega))
  have f5 := f4.mv (Mv.belowG hb5)
  have f6 := f5.mv (Mv.from (L := w.heap.size + 2) hg6 (by omega) (Nat.le_refl _))
  have f7 := f6.mv (Mv.from (L := w.heap.size) hg7 (by omega) (by omega))
  have hs4 := Nat.le_trans hb3.size hg4.size
  have g5 : RT (From w4.heap.size) w5 v5 x.2.2.2 := RT.own hown5 hg2.1 hfr5
  have g6 := g5.mv (Mv.from (L := w.heap.size + 2) hg6 (by omega) (by omega))
  have g7 := g6.mv (Mv.from (L := w.heap.size) hg7 (by omega) (by omega))
  have hB5 := below_and hB4 (Nat.le_refl _) hb5
  have hB6 := hB5.trans (grown_below hg6 hB5.size (fun k hk => by cases hk; exact Nat.le_refl _))
  have hB7 := hB6.trans (grown_below hg7 hB6.size (fun k hk => by cases hk; omega))
  have hr7 := hr7.out
  refine bodyPost_ret (v := .agg ([.int .i64 x.1, .int .i64 x.2.1, v3, v5] : List Value).toArray) (results_cell_row rfl _ _ (w.heap.size + 1) _ _ (0, 0) _ (by rfl) hr7 Tryz.underlying62 rfl (by kernel_rfl)) rfl ?_
  exact ⟨_, rfl, ⟨_, _, rfl, f7, g7⟩, hB7⟩
end Go.Proofs.YtgbfmccecnfooaaGreatDoor
