/- Laws of layer 19: what stands between two acts; a vote put in by a law; certificates by the votes alone. -/
import Derived.Test.YtgpkngiakhdmhaaDoorSBBU
import Derived.Test.YtgpkngiakhdmhaaDoorSBBL
import Derived.Test.YtgpkngiakhdmhaaDoorSBBV
import Derived.Test.YtgpkngiakhdmhaaDoorSBBC
import Derived.Deep.MidRow
import Derived.Deep.RegionHeld3
set_option linter.unusedSimpArgs false
set_option linter.unusedVariables false
namespace Go.Proofs.YtgpkngiakhdmhaaDoor
section
open Go.RowKit Oct Stb MI Bal Sha
def mx (a b : Int) : Int := if a < b then b else a
theorem mx_ge (a b : Int) : a ≤ mx a b ∧ b ≤ mx a b := by unfold mx; split <;> omega
theorem cut_ent (tl : PTl) (c : Int) : entT (cutT tl c) = (entT tl).filter (fun z => decide (c < z.1)) := by
  unfold entT cutT
  rw [List.filter_map]
  rfl
/-- No text lies in a tally's own cells. -/
theorem rt_notRow {G : Nat → Prop} {w : World} {v : Value} {l : List Int} {b m : Nat} {n cut : Int} {t : TypeId} (h : RT G w v l) (hx : l ≠ []) (hb : v.ownBlock = some b) (hr : Row w b t [.int .i64 n, .int .i64 cut, .map (some m)]) : False := by
  obtain ⟨ao, cap, rfl, h1, h2, h3, h4⟩ := h.1.2
  cases ao with
  | none => simp [Value.ownBlock] at hb
  | some a =>
    obtain ⟨x, xs, rfl⟩ := List.exists_cons_of_ne_nil hx
    have h5 := h4 a rfl 0 _ rfl
    have h7 : a.block = b := by simpa [Value.ownBlock] using hb
    unfold Row at hr
    have h6 : a.add 0 = a := rfl
    rw [h6] at h5
    unfold World.cell? at h5
    rw [h7, hr] at h5
    simp only at h5
    split at h5
    · cases h5
    · match hq : a.off with
      | 0 => rw [hq] at h5; simp at h5
      | 1 => rw [hq] at h5; simp at h5
      | 2 => rw [hq] at h5; simp at h5
      | q + 3 => rw [hq] at h5; simp at h5
/-- Behind the loop: a tally. -/
theorem IT.doneT {w w' : World} {b m it : Nat} {n cut l2 : Int} {tl : PTl} (h : Tly w b m n cut tl) (hc : cut ≤ l2) (hrow : Row w' b 56 [.int .i64 n, .int .i64 l2, .map (some m)]) {es0 : List MapEntry} {clock : Nat} {seen : Array Nat} (hE : En es0 clock) (hl : es0.map (fun e => (e.key, e.val)) = (entT tl).map (fun z => (ki z.1, z.2)))
    (hi : IT w' m it es0 clock l2 seen) (hall : ∀ x ∈ es0.filter (pkS l2 seen), seen.contains x.born = true) (hg : Gs (fun k => k = b ∨ k = m) w w') : Tly w' b m n l2 (cutT tl l2) := by
  have hf := flt_end hall
  have hm := hi.map
  rw [hf] at hm
  have hsub : ∀ y ∈ cutT tl l2, y ∈ tl := fun y hy => (List.mem_filter.1 hy).1
  have hbb : b ≠ m := fun e => by
    have h2 := h.row.cell (j := 0) rfl
    rw [e, h.map.nocell 0] at h2
    cases h2
  refine ⟨hrow, h.ok.cut hc, ?_, fun y hy => ?_, ?_⟩
  · rw [cut_ent]
    refine ⟨_, clock, hm, ?_, ?_, ?_⟩
    · exact filt_ent hl (fun e z hk => by rw [hk, slV_kv])
    · intro e he
      have he : e ∈ es0.filter (fun e => decide (l2 < slV e.key)) := by simpa using he
      exact hE.old e (List.mem_filter.1 he).1
    · simpa using (List.filter_sublist.map _).nodup hE.one
  · have hy' := hsub y hy
    have hyb : y.2.1 ∈ blkT tl := List.mem_map.2 ⟨y, hy', rfl⟩
    obtain ⟨l, hl1, hl2⟩ := h.ins y hy'
    have hne : y.2.1 ≠ b ∧ y.2.1 ≠ m := by
      refine ⟨fun e => ?_, fun e => (List.nodup_cons.1 h.dup).1 (e ▸ hyb)⟩
      have h2 := h.row.cell (j := 0) rfl
      rw [← e, hl1.nocell 0] at h2
      cases h2
    refine ⟨l, ?_, hl2.mono fun z c hz => ?_⟩
    · obtain ⟨es, ck, h3, h4⟩ := hl1
      exact ⟨es, ck, (hg.block _ (Array.getElem?_eq_some_iff.1 h3).1 (fun hS => by rcases hS with hS | hS; exact hne.1 hS; exact hne.2 hS)).trans h3, h4⟩
    · obtain ⟨h5, sg, h6, h7⟩ := hz
      refine ⟨h5, sg, h6, ?_⟩
      have hsgb : RT (fun k => k ≠ b ∧ NMap w k) w sg c.2.2 := by
        exact ⟨h7.1, fun hx k hk => ⟨fun e => rt_notRow h7 hx (e ▸ hk) h.row, h7.nmap.2 hx k hk⟩⟩
      exact hsgb.mv (fun k hk hlt => ⟨hg.block k hlt (fun hS => by
        rcases hS with hS | hS
        · exact hk.1 hS
        · rw [hS] at hk
          exact h.map.isMap hk.2), trivial⟩)
  · have hs : (cutT tl l2).Sublist tl := List.filter_sublist
    have h1 : (blkT (cutT tl l2)).Sublist (blkT tl) := hs.map _
    exact List.Sublist.nodup (List.Sublist.cons_cons m h1) h.dup
set_option maxRecDepth 10000 in
set_option maxHeartbeats 4000000 in
theorem cutT_any {b m : Nat} {n cut : Int} {tl : PTl} (w : World) (h : Tly w b m n cut tl) (c : Int) :
    Calls Tryd.prog 19 #[.pointer (some ⟨b, 0, none⟩), .int .i64 c] w fun e w' => e = .returned (.tuple #[]) ∧ Tly w' b m n (mx cut c) (cutT tl (mx cut c)) ∧ Gs (fun k => k = b ∨ k = m) w w' := by
  have c1 := h.row.cell (j := 1) rfl
  have hmx := mx_ge cut c
  have hmax : ∀ ty u, (Builtin.max_ #[3, 3] ty #[.int .i64 cut, .int .i64 c]).run Tryd.prog u = .ok (.int .i64 (mx cut c)) u := fun ty u => by
    unfold mx
    by_cases hcc : cut < c <;> simp [Builtin.max_, Builtin.max2, hcc]
  obtain ⟨l2, hl2⟩ : ∃ l2, l2 = mx cut c := ⟨_, rfl⟩
  rw [← hl2] at hmx hmax ⊢
  clear hl2
  have hbb : b ≠ m := fun e => by
    have h2 := h.row.cell (j := 0) rfl
    rw [e, h.map.nocell 0] at h2
    cases h2
  obtain ⟨es0, clock, hb0, hE, hle⟩ := h.map.ens (by rw [ent_keysT]; exact h.ok.dup)
  have hrow := h.row
  have hml := h.map.lt
  have HE := (show Hid (En es0 clock ∧ es0.map (fun e => (e.key, e.val)) = (entT tl).map (fun z => (ki z.1, z.2)) ∧ Tly w b m n cut tl ∧ cut ≤ l2) from ⟨hE, hle, h, hmx.1⟩)
  clear h hmx hE hle
  go_enter Tryd.func19, Tryd.ntmps19
  go_upto_region 1 with (refine wl_set rfl _ _ _ rfl b 1 (.int .i64 l2) rfl rfl _ _ hrow (show 1 < 3 by decide) (by kernel_rfl) rfl ?_; intro w1 r1 g1)
  have r1 : Row w1 b 56 [.int .i64 n, .int .i64 l2, .map (some m)] := r1.out
  have hb1 : w1.heap[m]? = some (.map es0.toArray clock) := (g1.block m hml (fun e => hbb (Option.some.inj e).symm)).trans hb0
  have hm1 : m < w1.heap.size := (Array.getElem?_eq_some_iff.1 hb1).1
  have hrg := run_range_map (P := Tryd.prog) w1 54 _ _ m es0.toArray clock Tryd.underlying54 hb1
  obtain ⟨w2, hw2⟩ : ∃ w2, w2 = w1.alloc (.mapIter (some m) clock #[] clock) := ⟨_, rfl⟩
  have B2 : Below w1.heap.size w1 w2 := by rw [hw2]; exact below_alloc _ _
  have hi2 : IT w2 m w1.heap.size es0 clock l2 #[] := ⟨by rw [hw2, flt_start]; exact ((below_alloc w1 (.mapIter (some m) clock #[] clock)).block m hm1).trans hb1, by rw [hw2]; exact heap_alloc_new w1 _⟩
  have hG2 : Gs (fun k => k = b ∨ k = m) w w2 := (Gs.of (S := fun k => k = b ∨ k = m) g1 (.inr (.inl rfl))).trans (Gs.bel (S := fun k => k = b ∨ k = m) B2) (fun _ _ h => h)
  have r2 := r1.below B2
  have hbl : b < w1.heap.size := r1.lt
  have hszw : w.heap.size ≤ w1.heap.size := g1.size
  have c1 := r1.cell (j := 1) rfl
  have c2 := r1.cell (j := 2) rfl
  clear hrow hb1 g1 hb0 hmax
  go_upto_region 2 with fail
  rw [← hw2]
  clear hw2 hrg c1 r1 c2
  try go_simp
  go_loopw [4] (fun _ wr => ∃ seen, IT wr m w1.heap.size es0 clock l2 seen ∧ Gs (fun k => k = b ∨ k = m) w wr ∧ Row wr b 56 [.int .i64 n, .int .i64 l2, .map (some m)] ∧ w1.heap.size < wr.heap.size) (fun _ wr => wr.rangeLeft m w1.heap.size)
  case atStart => exact ⟨#[], hi2, hG2, r2, (Array.getElem?_eq_some_iff.1 hi2.it).1⟩
  case round =>
    clear hi2 hG2 r2 B2
    obtain ⟨seen, hi, hg, hrow, hsz⟩ := hrel
    go_upto_region 3 with (at_next; refine wl_nextI rfl _ rfl HE.out.1 hi rfl (fun hall => ?_) (fun e q v w3 he hk hleft hm3 hi3 hg3 hen => ?_); (replace hall := (show Hid _ from hall)); rotate_left; (replace he := (show Hid _ from he); replace hleft := (show Hid _ from hleft)); rotate_left)
    · go_end0
      exact ⟨rfl, IT.doneT HE.out.2.2.1 HE.out.2.2.2 hrow HE.out.1 HE.out.2.1 hi hall.out hg, hg⟩
    · have he := he.out
      have hleft := hleft.out
      have hrow3 := hrow.grown hg3 (fun e => by have := Option.some.inj e; omega)
      have c0 := hrow3.cell (j := 1) rfl
      have c1 := hrow3.cell (j := 2) rfl
      have hgw3 : Gs (fun k => k = b ∨ k = m) w w3 := hg.trans (S' := fun k => k = w1.heap.size) (Gs.of hg3 (.inr rfl)) (fun k hk e => by omega)
      have he0 := (List.mem_filter.1 he).1
      have hsh := left_shrinks _ _ _ hleft
      have hsz3 := hg3.size
      rw [show ki q = .int .i64 q from rfl] at hen ⊢
      by_cases hsl : q ≤ l2
      · have hd : decide (q ≤ l2) = true := decide_eq_true hsl
        obtain ⟨w4, hdel, hi4, hg4⟩ := IT.del Tryd.underlying54 (w := w3) HE.out.1 hm3 hi3 he hk.out hsl
        rw [show ki q = .int .i64 q from rfl] at hdel
        have hgm : (leftOf (es0.filter (pkS l2 (seen.push e.born))).toArray (seen.push e.born)).size < (leftOf (es0.filter (pkS l2 seen)).toArray seen).size := by
          refine Nat.lt_of_le_of_lt (left_le _ ?_) hsh
          rw [← flt_struck HE.out.1 he0 (by rw [hk.out, slV_kv]; exact hsl)]
          exact List.filter_sublist
        have hrow4 := hrow3.grown hg4 (fun e => hbb (Option.some.inj e).symm)
        have hs4 := hg4.size
        clear hm3 hi3 he he0 hleft hsh
        go_wp2_with fail
        go_roundw
        case rel => exact ⟨_, hi4, hgw3.trans (Gs.of (S := fun k => k = b ∨ k = m) hg4 (.inr (.inr rfl))) (fun _ _ h => h), hrow4, by omega⟩
        case measure =>
          rw [hi4.left, hi.left]
          exact hgm
      · have hd : decide (q ≤ l2) = false := decide_eq_false hsl
        have hst := flt_stays (seen := seen) HE.out.1 he0 (s := l2) (by rw [hk.out, slV_kv]; exact hsl)
        have hi4 : IT w3 m w1.heap.size es0 clock l2 (seen.push e.born) := ⟨by rw [← hst]; exact hm3, hi3⟩
        have hgm : (leftOf (es0.filter (pkS l2 (seen.push e.born))).toArray (seen.push e.born)).size < (leftOf (es0.filter (pkS l2 seen)).toArray seen).size := by
          rw [← hst]
          exact hsh
        clear hm3 hi3 he he0 hleft hsh hst
        go_wp2_with fail
        go_roundw
        case rel => exact ⟨_, hi4, hgw3, hrow3, by omega⟩
        case measure =>
          rw [hi4.left, hi.left]
          exact hgm
end
section
open Go.RowKit Oct Stb MI Bal Sha
/-- What stands between two acts. -/
def Mid (W : World) (b m : Nat) (n cut : Int) (w : World) (tl : PTl) : Prop := Tly w b m n cut tl ∧ Tab w ∧ Below W.heap.size W w ∧ (∀ k, Own1 m tl k → W.heap.size ≤ k) ∧ W.heap.size ≤ b
theorem Mid.below {W : World} {b m : Nat} {n cut : Int} {w w' : World} {tl : PTl} (h : Mid W b m n cut w tl) (hb : Below w.heap.size w w') : Mid W b m n cut w' tl :=
  ⟨h.1.below hb, h.2.1.below hb, below_and h.2.2.1 (Nat.le_refl _) hb, h.2.2.2⟩
theorem put_own {tl : PTl} {s i : Int} {nb m : Nat} {c : PCh} {k : Nat} (h : Own1 m (putT tl s nb i c) k) : Own1 m tl k ∨ k = nb := by
  rw [← app_mid tl s nb (i, c)] at h
  have := (app_ent (midT tl s nb) s (i, c)).2.1
  unfold Own1 at h
  rw [this] at h
  exact mid_own h
theorem Mid.add {W : World} {b m : Nat} {n cut : Int} {w : World} {tl : PTl} (h : Mid W b m n cut w tl) (s : Int) (dv : Value) (d : List Int) (hd : Rd w dv d) (i : Int) (gv : Value) (g : List Int) (hg : Rd w gv g) :
    Calls Tryd.prog 9 #[.pointer (some ⟨b, 0, none⟩), .int .i64 s, dv, .agg #[.int .i64 i, gv]] w fun e w' => ∃ nb, e = .returned (.bool (addB n cut tl s d (i, g))) ∧ Hid (Mid W b m n cut w' (addT n cut tl nb s d (i, g)) ∧ Gs (Own1 m tl) w w' ∧ (∀ k, Own1 m tl k → ¬ NMap w k)) := by
  obtain ⟨h1, h2, h3, h4, h5⟩ := h
  have hsz := h3.size
  refine (addT_any w h1 s dv d hd i gv g hg h2).mono ?_
  rintro e w' ⟨nb, hn, he, h6, hgs⟩
  refine ⟨nb, he, ⟨h6, gs_tab h1 hgs h2, ?_, fun k hk => ?_, h5⟩, hgs, fun k hk => (h1.own hk).1⟩
  · exact h3.trans (hgs.below hsz h4)
  · unfold addT at hk
    split at hk
    · rcases put_own hk with hk | hk
      · exact h4 k hk
      · omega
    · exact h4 k hk
theorem row_gs {w w' : World} {S : Nat → Prop} {c : Nat} {t : TypeId} {x : Value} {xs : List Value} (h : Row w c t (x :: xs)) (hg : Gs S w w') (hs : ∀ k, S k → ¬ NMap w k) : Row w' c t (x :: xs) :=
  (hg.block c h.lt (fun hS => hs c hS (cell_nmap (a := ⟨c, 0, none⟩) (h.cell (j := 0) rfl)))).trans h
theorem rl_oneT {G : Nat → Prop} {w : World} {i : Int} {v : Value} {g : List Int} (h : RT G w v g) (hG : G w.heap.size) : RL RVote 2 G (w.alloc (.cells #[.int .i64 i, v] 28)) (.slice (some ⟨w.heap.size, 0, none⟩) 1 1) [(i, g)] := by
  refine ⟨[[.int .i64 i, v]], ⟨by simp, .inr ⟨w.heap.size, 0, 1, rfl, by simp, by unfold maxLen; decide, by simp, hG, by simp, ?_⟩⟩, ⟨⟨v, rfl, h.mv (Mv.belowG (below_alloc _ _))⟩, trivial⟩⟩
  intro q r hq
  have hR := Row.new w 28 [.int .i64 i, v]
  cases q with
  | zero =>
    simp at hq
    subst hq
    intro j u hj
    simpa using hR.cell hj
  | succ q => simp at hq
theorem copy1_any (w : World) (v : Value) (i : Int) (g : List Int) (h : RL RVote 2 Any w v [(i, g)]) (hz : szT g) :
    Calls Tryd.prog 10 #[v] w fun e w' => ∃ x y z ga gc, e = .returned (.slice (some ⟨x, y, none⟩) 1 z) ∧ Hid (w'.rangeAt x y [.int .i64 i, .slice ga g.length gc]) ∧ Hid (RT Any w' (.slice ga g.length gc) g) ∧ Hid (Below w.heap.size w w') ∧ Hid (x < w'.heap.size) := by
  refine (copyVotes_any w v [(i, g)] h ⟨by simp, fun y hy => by simp at hy; subst hy; exact hz⟩).mono ?_
  rintro e w' ⟨v', rfl, h2, h3⟩
  obtain ⟨x, y, z, rfl, _, _, hG, hlt, hat⟩ := h2.at (by simp)
  obtain ⟨r, _, hr, sg, rfl, hs⟩ := hat 0 _ rfl
  obtain ⟨ga, gc, rfl, _⟩ := hs.form
  refine ⟨x, y, z, ga, gc, rfl, ?_, hs.mv Mv.any, h3, hlt⟩
  have hr : w'.rangeAt x y [.int .i64 i, .slice ga g.length gc] := by simpa using hr
  exact hr
theorem bs0 (u : World) : (Instr.buildSlice 26 0 #[]).run Tryd.prog u = .ok (.slice (some ⟨u.heap.size, 0, none⟩) 0 0) (u.alloc (.cells #[] 5)) := by kernel_rfl
theorem bs1 (u : World) (i : Int) (ga : Option Addr) (q gc : Nat) : (Instr.buildSlice 32 1 #[(0, .agg #[.int .i64 i, .slice ga q gc])]).run Tryd.prog u = .ok (.slice (some ⟨u.heap.size, 0, none⟩) 1 1) (u.alloc (.cells #[.int .i64 i, .slice ga q gc] 28)) := by kernel_rfl
/-! ### certificates -/
/-- A struct is loaded out of a row's midst, at a step of a region that draws its order. -/
theorem step_loadM {P : Program} {w : World} {ops : Array Oper} {o : Oper} {a : Act} {K : Act → World → Prop} {Q : Exit → Act → World → Prop} {E : Prop} (hgd : Region.wanted o (yielded ops a.tmps) = true) (ty : TypeId) (x : Operand) (ho : o.op = .load ty x)
    (b off : Nat) (hx : a.eval x = .pointer (some ⟨b, off, none⟩)) (cs : List Value) (d : TypeDesc) (hr : w.rangeAt b off cs) (hu : P.underlying ty = some d) (hd : d.isRow = true)
    (hi : (P.info? ty).map (·.size) = some cs.length) (k : K (a.put o.dst (.agg cs.toArray)) w) : if Region.wanted o (yielded ops a.tmps) = true then Oper.wp P o a w K Q else E := by
  rw [if_pos hgd]
  unfold Oper.wp execOp
  simp only [ho, hx, Instr.loadAt, Instr.sureAddr, Sem.run_bind, Sem.run_pure, Result.andThen_ok, run_loadVar_mid w b off ty cs d hr hu hd hi]
  exact k
theorem own_lt0 {w : World} {b : Nat} (h : Own w 5 (.slice (some ⟨b, 0, none⟩) 0 0) (bc [])) : b < w.heap.size := (World.ownsRow.lt h b rfl).2
theorem hid_dig {d : List Int} (h : szT d) : ([] : List Int).length + d.length ≤ 140737488355328 := by
  unfold szT at h
  simp only [List.length_nil]
  omega
/-- 'append' of bytes, at a step of a region that draws its order, guarded or not. -/
theorem step_bytesW {w : World} {ops : Array Oper} {o : Oper} {a : Act} {K : Act → World → Prop} {Q : Exit → Act → World → Prop} {E : Prop} (hgd : Region.wanted o (yielded ops a.tmps) = true) (s x : Operand)
    (ho : o.op = .call { callee := .builtin .append, args := #[s, x], argTypes := #[26, 26] })
    (v : Value) (l : List Int) (hs : a.eval s = v) (hown : Own w 5 v (bc l)) (sv : Value) (m : List Int) (hx : a.eval x = sv) (hsrc : Rdv w sv (bc m)) (hb : l.length + m.length ≤ 140737488355328)
    (h : ∀ v' w', App w 5 v w' v' (bc (l ++ m)) → K (a.put o.dst v') w') : if Region.wanted o (yielded ops a.tmps) = true then Oper.wp Tryd.prog o a w K Q else E := by
  rw [if_pos hgd]
  obtain ⟨i0, hi, hz0, hz1, hz2⟩ := info_parts Tryd.info5
  refine wp_app s x 26 ho 5 i0 (.int .u8 0) 1 Tryd.underlying26 hi hz0 hz1 hz2 rfl v (bc l) hs hown sv (bc m) hx hsrc (bc_one _) (by rw [bc_len, bc_len]; unfold maxLen; omega) (by rw [bc_len, bc_len]; omega) ?_
  rw [← bc_app]
  exact h
theorem slots_cut {n c : Int} {tl : PTl} (h : OkT n 0 tl) : slotsL n (cutT tl (mx 0 c)) = (slotsL n tl).filter (fun s => decide (c < s)) := by
  refine (srtI_eq ?_ ?_).symm
  · exact List.Pairwise.filter _ (srtI_le _)
  · unfold slotsL
    refine ((srtI_perm _).filter _).trans ?_
    rw [List.filter_map]
    unfold cutT
    rw [List.filter_filter, List.filter_filter]
    refine List.Perm.map _ (List.Perm.of_eq (List.filter_congr fun y hy => ?_))
    have h0 := (h.all y hy).lo
    have e : decide (c < y.1) = decide (mx 0 c < y.1) := by
      unfold mx
      split <;> rw [Bool.eq_iff_iff] <;> simp <;> omega
    simp only [Function.comp]
    rw [e, Bool.and_comm]
theorem add_no {n cut s : Int} {tl : PTl} {d : List Int} {v : PVote} {nb : Nat} (h : ¬ cut < s) : addB n cut tl s d v = false ∧ addT n cut tl nb s d v = tl := by
  have h1 : addOk n cut tl s d v = false := by
    unfold addOk
    rw [fail_val (fun h2 => h h2.1), Bool.false_and]
  exact ⟨by unfold addB; rw [h1, Bool.false_and], by unfold addT; rw [h1]; rfl⟩
theorem Mid.cut {W : World} {b m : Nat} {n : Int} {w : World} {tl : PTl} (h : Mid W b m n 0 w tl) (c : Int) :
    Calls Tryd.prog 19 #[.pointer (some ⟨b, 0, none⟩), .int .i64 c] w fun e w' => e = .returned (.tuple #[]) ∧ Hid (Mid W b m n (mx 0 c) w' (cutT tl (mx 0 c))) ∧ Gs (fun k => k = b ∨ k = m) w w' := by
  obtain ⟨h1, h2, h3, h4, h5⟩ := h
  have hsz := h3.size
  have hm : W.heap.size ≤ m := h4 m (.inl rfl)
  have hT : ∀ k, (k = b ∨ k = m) → k ≠ 0 := fun k hk e => by
    have h6 := h2 0 (by decide)
    rcases hk with hk | hk
    · have h7 := h1.row.cell (j := 0) rfl
      rw [← hk, e] at h7
      rw [h7] at h6
      injection h6 with h6
      injection h6 with h6 _
      cases h6
    · have h9 := h1.map.nocell 0
      rw [← hk, e] at h9
      rw [h9] at h6
      cases h6
  refine (cutT_any w h1 c).mono ?_
  rintro e w' ⟨he, h6, hg⟩
  refine ⟨he, ⟨h6, h2.keep (hg.block _ h2.pos (fun hS => hT _ hS rfl)), h3.trans (hg.below hsz (fun k hk => by rcases hk with hk | hk <;> omega)), fun k hk => ?_, h5⟩, hg⟩
  rcases hk with hk | hk
  · omega
  · refine h4 k (.inr ?_)
    unfold blkT cutT at hk
    exact (List.filter_sublist.map _).subset hk
end
end Go.Proofs.YtgpkngiakhdmhaaDoor
