/- stable: Slots. -/
import Derived.Test.YtgpkngiakhdmhaaDoorSBBT
import Derived.Test.YtgpkngiakhdmhaaDoorSBAD
set_option linter.unusedSimpArgs false
set_option linter.unusedVariables false
namespace Go.Proofs.YtgpkngiakhdmhaaDoor
open Go.RowKit Oct Stb MI Bal Sha
theorem Tryd.infIntT : (Tryd.prog.info? 3).map (fun i => (i.zero, i.size, i.bytes)) = some (some (.int .i64 0), 1, 8) := by kernel_rfl
def zc (l : List Int) : List Value := l.map (Value.int .i64)
theorem rint_rows : ∀ {rows : List (List Value)} {G : Nat → Prop} {w : World} {L : List Int}, All2 (RInt G w) rows L → rows.flatten = zc L
  | [], _, _, [], _ => rfl
  | r :: rows, G, w, x :: L, h => by
    have h1 : r = [.int .i64 x] := h.1
    have h2 := rint_rows h.2
    rw [List.flatten_cons, h1, h2]
    rfl
  | [], _, _, _ :: _, h => h.elim
  | _ :: _, _, _, [], h => h.elim
theorem lb_openI {B : Nat} {w : World} {v : Value} {L : List Int} (h : LB RInt 3 1 B w v L) : (v = .slice none 0 0 ∧ L = []) ∨ ∃ (g cap : Nat) (rest : List Value), v = .slice (some ⟨g, 0, none⟩) L.length cap ∧ Row w g 3 (zc L ++ rest) ∧ L.length ≤ cap ∧ cap ≤ maxLen ∧ B ≤ g := by
  obtain ⟨rows, h0, hown, hfr, hall⟩ := h
  have hlen := hall.len
  have ef := rint_rows hall
  rcases hown.2 with ⟨e1, h4⟩ | ⟨g, cap, cur, rfl, _, hg, hc1, hc2, hc3, hc4⟩
  · refine .inl ⟨e1, List.eq_nil_of_length_eq_zero (by omega)⟩
  · right
    have hcur : cur.toList = zc L ++ cur.toList.drop (rows.length * 1) := by rw [← ef, ← hc4, List.take_append_drop]
    exact ⟨g, cap, cur.toList.drop (rows.length * 1), by rw [hlen], by rw [← hcur]; unfold Row; simpa using hg, by omega, hc2, hfr g rfl⟩
theorem rl_intsC {w : World} {g cap n : Nat} {L : List Int} (hg : g < w.heap.size) (h : ∀ j x, L[j]? = some x → w.cell? ⟨g, j, none⟩ = some (.int .i64 x)) (hn : n = L.length) (hc : L.length ≤ cap) (hm : cap ≤ maxLen) : RL RInt 1 Any w (.slice (some ⟨g, 0, none⟩) n cap) L := by
  subst hn
  refine ⟨L.map (fun x => [.int .i64 x]), ⟨fun r hr => by obtain ⟨x, _, rfl⟩ := List.mem_map.1 hr; rfl, ?_⟩, ?_⟩
  · cases L with
    | nil => exact .inl ⟨_, _, rfl, rfl, hm⟩
    | cons x xs =>
      refine .inr ⟨g, 0, cap, by simp, by simpa using hc, hm, by simp, trivial, hg, fun i r hr j u hj => ?_⟩
      rw [List.getElem?_map] at hr
      cases hx : (x :: xs)[i]? with
      | none => rw [hx] at hr; cases hr
      | some y =>
        rw [hx] at hr
        injection hr with hr
        subst hr
        cases j with
        | succ j => simp at hj
        | zero =>
          simp at hj
          subst hj
          have := h i y hx
          rwa [show 0 + i * 1 + 0 = i by omega]
  · clear h hc
    induction L with
    | nil => trivial
    | cons x xs ih => exact ⟨rfl, ih⟩
/-- Sorted. -/
def srtI (L : List Int) : List Int := L.mergeSort fun x y => decide (x ≤ y)
theorem srtI_len (L : List Int) : (srtI L).length = L.length := by unfold srtI; simp
theorem srtI_perm (L : List Int) : (srtI L).Perm L := List.mergeSort_perm _ _
theorem srtI_le (L : List Int) : (srtI L).Pairwise (fun x y => x ≤ y) := by
  have := List.pairwise_mergeSort (le := fun x y : Int => decide (x ≤ y)) (fun a b c h1 h2 => by simp only [decide_eq_true_eq] at *; omega) (fun a b => by simp only [Bool.or_eq_true, decide_eq_true_eq]; omega) L
  exact this.imp (fun h => by simpa using h)
theorem srtI_eq {a b : List Int} (ha : a.Pairwise (fun x y => x ≤ y)) (hp : a.Perm b) : a = srtI b :=
  List.Perm.eq_of_pairwise (le := fun x y : Int => x ≤ y) (fun x y _ _ h1 h2 => by omega) ha (srtI_le b) (hp.trans (srtI_perm b).symm)
/-- slices.Sort of a list of the call's own. -/
theorem sortT_any {B : Nat} (w : World) (v : Value) (L : List Int) (h : LB RInt 3 1 B w v L) (hl : L.length ≤ 1000) :
    Calls Tryd.prog 28 #[v] w fun e w' => e = .returned (.tuple #[]) ∧ RL RInt 1 Any w' v (srtI L) ∧ Below B w w' := by
  rcases lb_openI h with ⟨rfl, rfl⟩ | ⟨g, cap, rest, rfl, hR, hc, hm, hB⟩
  · refine (AnyM.slices_Sort_int_none sortW_l none 0 w).mono ?_
    rintro e w' ⟨rfl, rfl⟩
    exact ⟨rfl, by unfold srtI; rw [List.mergeSort_nil]; exact RL.nil _ _ _ _, Below.refl _ _⟩
  · have hH : Sort.Holds (Value.int .i64) w g 0 L.toArray := fun j hj => by
      have hj' : j < L.length := by simpa using hj
      refine ⟨?_, hR.frozen _⟩
      refine hR.cell ?_
      rw [Nat.zero_add, List.getElem?_append_left (by simpa [zc] using hj')]
      unfold zc
      rw [List.getElem?_map, List.getElem?_eq_getElem hj']
      simp [hj']
    refine (AnyM.slices_Sort_int sortW_l g 0 cap L w hH hR.lt (by omega)).mono ?_
    rintro e w' ⟨rfl, n, os, rfl⟩
    have hs : (L.mergeSort fun x y => decide (x ≤ y)).toArray.size = L.toArray.size := by simp
    have hH2 := Sort.holds_putRow (Value.int .i64) (Sort.ahead w n) g 0 L.toArray (L.mergeSort fun x y => decide (x ≤ y)).toArray hH hs
    have hsz : (Sort.putRow (Value.int .i64) (Sort.ahead w n) g 0 (L.mergeSort fun x y => decide (x ≤ y)).toArray).heap.size = w.heap.size := by rw [Sort.size_putRow]; rfl
    refine ⟨rfl, rl_intsC ?_ (fun j x hx => ?_) (srtI_len L).symm (by rw [srtI_len]; exact hc) hm, ⟨rfl, rfl, rfl, ?_, fun k hk => ?_⟩⟩
    · show g < (Sort.grow _ os).heap.size
      simp only [Sort.grow, Array.size_append, hsz]
      have := hR.lt
      omega
    · rw [Sort.cell?_grow _ _ _ (by rw [hsz]; exact hR.lt)]
      have hj := (List.getElem?_eq_some_iff.1 hx).1
      have h1 := (hH2 j (by simpa [srtI] using hj)).1
      rw [Nat.zero_add] at h1
      rw [h1]
      have h2 : (srtI L)[j] = x := (List.getElem?_eq_some_iff.1 hx).2
      unfold srtI at h2 hj
      have h3 : (L.mergeSort fun x y => decide (x ≤ y)).toArray[j]! = x := by
        rw [getElem!_pos _ j (by simpa using hj)]
        simpa using h2
      rw [h3]
    · simp only [Sort.grow, Array.size_append, hsz]
      omega
    · have hne : ¬ g = k := by omega
      rw [Sort.heap_grow_old _ _ (by rw [hsz]; have := hR.lt; omega)]
      simp [Sort.putRow, Sort.mapBlock, Array.getElem?_modify, hne, Sort.ahead]
/-- The slots for which a quorum voted. -/
def okS (n : Int) (y : Int × Nat × PIn) : Bool := (crtD n y.2.2).isSome
def slotsL (n : Int) (tl : PTl) : List Int := srtI ((tl.filter (okS n)).map (·.1))
theorem crtR_some {n : Int} {ch : PIn} {d : List Int} {ls : List PVote} (hq : 1 ≤ quo n) (h : crtR n ch d ls) : decide ((0 : Int) < (ls.length : Int)) = (crtD n ch).isSome := by
  rcases h with ⟨h1, rfl, rfl⟩ | ⟨h1, zs, h2, h3, h4⟩
  · rw [h1]; rfl
  · rw [h1]
    unfold crtD at h1
    cases hf : ch.find? (fun z => decide (quo n ≤ ((vts ch z.2.1).length : Int))) with
    | none => rw [hf] at h1; cases h1
    | some z =>
      rw [hf] at h1
      injection h1 with h1
      have h5 := List.find?_some hf
      simp only [decide_eq_true_eq] at h5
      have h1 : z.2.1 = d := h1
      rw [h1] at h5
      have h6 := h3.length_eq
      have : 0 < ls.length := by rw [h4, List.length_take]; omega
      simpa using this
theorem at_mem : ∀ {tl : PTl} {y : Int × Nat × PIn}, (keysT tl).Nodup → y ∈ tl → atT tl y.1 = y.2.2
  | [], y, _, h => by cases h
  | z :: ys, y, hk, h => by
    obtain ⟨k1, k2⟩ := List.nodup_cons.1 hk
    unfold atT
    rcases List.mem_cons.1 h with h | h
    · rw [h, if_pos rfl]
    · rw [if_neg (fun e => k1 (List.mem_map.2 ⟨y, h, e⟩)), at_mem k2 h]
theorem slots_keys {n : Int} {tl : PTl} (hk : (keysT tl).Nodup) : (keysT tl).filter (fun s => (crtD n (atT tl s)).isSome) = (tl.filter (okS n)).map (·.1) := by
  unfold keysT
  rw [List.filter_map]
  congr 1
  refine List.filter_congr fun y hy => ?_
  unfold okS
  simp only [Function.comp]
  rw [at_mem hk hy]
theorem srtI_cong {a b : List Int} (h : a.Perm b) : srtI a = srtI b := srtI_eq (srtI_le a) ((srtI_perm a).trans h)
set_option maxRecDepth 10000 in
set_option maxHeartbeats 8000000 in
theorem slotsT_any {b m : Nat} {n cut : Int} {tl : PTl} (w : World) (h : Tly w b m n cut tl) :
    Calls Tryd.prog 14 #[.pointer (some ⟨b, 0, none⟩)] w fun e w' => ∃ v, e = .returned v ∧ RL RInt 1 Any w' v (slotsL n tl) ∧ Below w.heap.size w w' := by
  have hkeys := ent_keysT tl
  obtain ⟨es0, clock, hb0, hE, hle⟩ := h.map.ens (by rw [hkeys]; exact h.ok.dup)
  have hml := h.map.lt
  have c2 := h.row.cell (j := 2) rfl
  have hrg := run_range_map (P := Tryd.prog) w 54 _ _ m es0.toArray clock Tryd.underlying54 hb0
  have hI := IR.start hb0
  have B2 := below_alloc w (.mapIter (some m) clock #[] clock)
  have hlt2 : w.heap.size < (w.alloc (.mapIter (some m) clock #[] clock)).heap.size := by simp
  have HK := (show Hid (es0.map (fun e => unK e.key) = keysT tl) from by
    have := congrArg (List.map (fun x : Value × Value => unK x.1)) hle
    simp only [List.map_map, Function.comp_def] at this
    rw [← hkeys]
    exact this)
  have HE := (show Hid (En es0 clock) from hE)
  have HT := (show Hid (Tly w b m n cut tl ∧ tl.length ≤ 64) from ⟨h, h.ok.len⟩)
  have HCT := (show Hid (∀ u s, Below w.heap.size w u → Calls Tryd.prog 11 #[.pointer (some ⟨b, 0, none⟩), .int .i64 s] u fun e w' => ∃ dv va q vc, e = .returned (.tuple #[dv, .slice va q vc]) ∧ (tl ≠ [] → decide ((0 : Int) < (q : Int)) = (crtD n (atT tl s)).isSome) ∧ Below u.heap.size u w') from fun u s hu => (certT_any u (h.below hu) s).mono fun e w' ⟨dv, lv, h1, d, hd, ls, h2, h3, h4⟩ => by
    obtain ⟨va, vc, e3, _⟩ := h2.form
    refine ⟨dv, va, ls.length, vc, by rw [h1, e3], fun hne => ?_, h4⟩
    have hrn := h.ok.right hne
    have h5 := quo_yes hrn
    have h6 := fau_ge hrn
    exact crtR_some (by omega) h3)
  clear hkeys hle hb0 hE h
  go_enter Tryd.func14, Tryd.ntmps14
  go_upto_region 3 with fail
  clear hrg c2
  generalize hw2 : w.alloc (.mapIter (some m) clock #[] clock) = w2 at *
  clear hw2
  go_loopw [3] (fun o wr => ∃ (dn : List MapEntry) (out : List Int), IR wr m w.heap.size es0 clock dn ∧ Hid (out = (dn.map (fun e => unK e.key)).filter (fun s => (crtD n (atT tl s)).isSome)) ∧ LB RInt 3 1 (w.heap.size + 1) wr o out ∧ Below w.heap.size w wr ∧ w.heap.size < wr.heap.size) (fun _ wr => wr.rangeLeft m w.heap.size)
  case atStart => exact ⟨[], [], hI, rfl, LB.nil _ _ _ _ _, B2, hlt2⟩
  case round =>
    clear hI hlt2 B2
    obtain ⟨dn, out, hi, hD, hL, hB, hlt⟩ := hrel
    have hol : out.length ≤ 64 := by
      rw [hD.out]
      refine Nat.le_trans (List.length_filter_le _ _) ?_
      rw [List.length_map]
      have h4 : dn.Nodup := List.Pairwise.imp (fun hab e => hab (by rw [e])) (List.pairwise_map.1 hi.dup)
      have h5 := len_of_sub (dn.map (fun e => unK e.key)) (keysT tl) (List.pairwise_map.2 (List.Pairwise.imp_of_mem (fun {a b} ha hb hab e2 => hab (key_one HE.out (hi.sub a ha) (hi.sub b hb) e2)) h4)) (fun x hx => by
        obtain ⟨e, he, rfl⟩ := List.mem_map.1 hx
        rw [← HK.out]
        exact List.mem_map.2 ⟨e, hi.sub e he, rfl⟩)
      rw [List.length_map] at h5
      unfold keysT at h5
      rw [List.length_map] at h5
      have := HT.out.2
      omega
    go_upto_region 4 with (at_next; refine wl_nextR rfl _ rfl HE.out hi rfl (fun hall => ?_) (fun e q v w3 he hne hk hv hi3 hg3 hen => ?_); (replace hall := (show Hid _ from hall)); rotate_left; (replace he := (show Hid _ from he); replace hne := (show Hid _ from hne)); rotate_left)
    · refine (sortT_any wr _ out hL (by omega)).mono ?_
      rintro e u1 ⟨rfl, hrl, bb⟩
      have HF := (show Hid (RL RInt 1 Any u1 u3 (slotsL n tl) ∧ Below w.heap.size w u1) from by
        refine ⟨?_, hB.trans (bb.mono (by omega))⟩
        have e1 : slotsL n tl = srtI out := by
          unfold slotsL
          rw [← slots_keys HT.out.1.ok.dup, hD.out, ← HK.out]
          exact srtI_cong (((hall.out.map _).filter _).symm)
        rw [e1]
        exact hrl)
      clear hall hL hrl bb hB hi
      go_wp2_with fail
      go_ret
      exact ⟨_, rfl, HF.out⟩
    · have hI3 := (show Hid (wr.rangeLeft m w.heap.size > w3.rangeLeft m w.heap.size) from hi.less hi3 he.out hne.out)
      have hqe : unK e.key = q := by rw [hk.out]; rfl
      have hne0 : tl ≠ [] := fun e0 => by
        have h1 : unK e.key ∈ es0.map (fun e => unK e.key) := List.mem_map.2 ⟨e, he.out, rfl⟩
        rw [HK.out, e0] at h1
        cases h1
      have hL3 := hL.grown mov_int hg3 (by omega)
      have hB3 : Below w.heap.size w w3 := hB.trans (grown_below hg3 hB.size (fun k hk => by cases hk; exact Nat.le_refl _))
      have hlt3 : w.heap.size < w3.heap.size := Nat.lt_of_lt_of_le hlt hg3.size
      have hD3 := (show Hid ((dn ++ [e]).map (fun e => unK e.key) = dn.map (fun e => unK e.key) ++ [q]) from by rw [List.map_append, ← hqe]; rfl)
      have hC := HCT.out w3 q hB3
      have HNE := (show Hid (tl ≠ []) from hne0)
      rw [show ki q = .int .i64 q from rfl] at hen ⊢
      clear hi hL hB hlt hg3 hv hk he hne hqe hne0
      go_upto_if 24 with (go_at_call 11; refine hC.mono ?_; rintro e2 w5 ⟨dv, va, qv, vc, rfl, hcr, b5⟩)
      have hcr2 := hcr HNE.out
      clear hcr
      have hL5 := hL3.below mov_int b5
      have hs5 := b5.size
      have hB5 := hB3.trans (b5.mono (by omega))
      have hi5 := hi3.below b5
      have hI5 := (show Hid (wr.rangeLeft m w.heap.size > w5.rangeLeft m w.heap.size) from by
        have := hI3.out
        rw [hi3.left] at this
        show _ < _
        rw [hi5.left]
        exact this)
      have hlt5 : w.heap.size < w5.heap.size := by omega
      clear hL3 hB3 hi3 hI3 hC b5
      cases hc : (crtD n (atT tl q)).isSome with
      | true =>
        rw [hc] at hcr2
        have hq0 : 0 < qv := by simpa using hcr2
        have HO := (show Hid (out ++ [q] = ((dn ++ [e]).map (fun e => unK e.key)).filter (fun s => (crtD n (atT tl s)).isSome)) from by
          rw [hD3.out, List.filter_append, ← hD.out, List.filter_cons_of_pos (by exact hc)]
          rfl)
        clear hc
        have hLlt := hL5.lt
        have hBN : w.heap.size + 1 ≤ w5.heap.size := by omega
        have hbnd : (out.length + 1) * 8 ≤ 140737488355328 := by omega
        go_upto_region 7 with fail
        apply wp_region_lit
        iterate 9 go_step
        refine wl_push mov_int rfl _ _ _ rfl 3 1 8 _ Tryd.underlying40 Tryd.infIntT rfl (by decide) (w.heap.size + 1) u3 out rfl hL5 [.int .i64 q] q w5.heap.size rfl rfl (fun u hu => by simp at hu; subst hu; rfl) hBN hLlt rfl hBN hbnd (by decide) ?_
        intro v7 w7 hL7 g7
        go_wp2_with fail
        go_roundw
        case rel =>
          have hne2 : ∀ j, u3.ownBlock = some j → w.heap.size + 1 ≤ j := hL5.fr
          exact ⟨_, _, hi5.grown g7 (fun e => by have := hne2 _ e; omega) (fun e => by have := hne2 _ e; omega), HO, hL7, hB5.trans (grown_below g7 (by omega) (fun k hk => by have := hne2 k hk; omega)), Nat.lt_of_lt_of_le (by omega) g7.size⟩
        case measure =>
          have hne2 : ∀ j, u3.ownBlock = some j → w.heap.size + 1 ≤ j := hL5.fr
          have h1 := hi5.left
          have h2 := (hi5.grown g7 (fun e => by have := hne2 _ e; omega) (fun e => by have := hne2 _ e; omega)).left
          rw [h2, ← h1]
          exact hI5.out
      | false =>
        rw [hc] at hcr2
        have hq0 : qv = 0 := by simpa using hcr2
        subst hq0
        have HO := (show Hid (out = ((dn ++ [e]).map (fun e => unK e.key)).filter (fun s => (crtD n (atT tl s)).isSome)) from by
          rw [hD3.out, List.filter_append, ← hD.out, List.filter_cons_of_neg (by rw [hc]; decide), List.filter_nil, List.append_nil]
          rfl)
        clear hc
        go_wp2_with fail
        go_roundw
        case rel => exact ⟨_, _, hi5, HO, hL5, hB5, by omega⟩
        case measure => exact hI5.out
end Go.Proofs.YtgpkngiakhdmhaaDoor
