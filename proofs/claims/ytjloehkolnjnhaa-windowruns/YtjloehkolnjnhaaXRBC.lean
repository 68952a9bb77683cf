/- Windows in memory: Cut. -/
import Derived.Test.YtjloehkolnjnhaaXRAX
import Derived.Test.YtjloehkolnjnhaaXRAT
set_option linter.unusedSimpArgs false
set_option linter.unusedVariables false
namespace Go.Proofs.Ytjloehkolnjnhaa
open Go.RowKit Oct Kvl Bal
/-- Of what was there only the two blocks may have turned. -/
structure Gw (w w' : World) (b m : Nat) : Prop where
  os : w'.os = w.os
  tape : w'.tape = w.tape
  output : w'.output = w.output
  size : w.heap.size ≤ w'.heap.size
  block : ∀ k, k < w.heap.size → k ≠ b → k ≠ m → w'.heap[k]? = w.heap[k]?
theorem Gw.refl (w : World) (b m : Nat) : Gw w w b m := ⟨rfl, rfl, rfl, Nat.le_refl _, fun _ _ _ _ => rfl⟩
theorem Gw.ofb {w w' : World} {b m : Nat} (h : w.grownBy w' (some b)) : Gw w w' b m := ⟨h.os, h.tape, h.output, h.size, fun k hk h1 _ => h.block k hk (fun e => h1 (by injection e))⟩
theorem Gw.ofm {w w' : World} {b m : Nat} (h : w.grownBy w' (some m)) : Gw w w' b m := ⟨h.os, h.tape, h.output, h.size, fun k hk _ h2 => h.block k hk (fun e => h2 (by injection e))⟩
theorem Gw.bel {w w' : World} {b m : Nat} (h : Below w.heap.size w w') : Gw w w' b m := ⟨h.os, h.tape, h.output, h.size, fun k hk _ _ => h.block k hk⟩
theorem Gw.trans {w w1 w2 : World} {b m : Nat} (h : Gw w w1 b m) (h' : Gw w1 w2 b m) : Gw w w2 b m :=
  ⟨h'.os.trans h.os, h'.tape.trans h.tape, h'.output.trans h.output, Nat.le_trans h.size h'.size, fun k hk h1 h2 => (h'.block k (Nat.lt_of_lt_of_le hk h.size) h1 h2).trans (h.block k hk h1 h2)⟩
theorem Gw.box {w w1 w2 : World} {b m q : Nat} (h : Gw w w1 b m) (h' : w1.grownBy w2 (some q)) (hq : w.heap.size ≤ q) : Gw w w2 b m :=
  ⟨h'.os.trans h.os, h'.tape.trans h.tape, h'.output.trans h.output, Nat.le_trans h.size h'.size, fun k hk h1 h2 => (h'.block k (Nat.lt_of_lt_of_le hk h.size) (fun e => by have := Option.some.inj e; omega)).trans (h.block k hk h1 h2)⟩
theorem Gw.below {w w' : World} {b m B : Nat} (h : Gw w w' b m) (hB : B ≤ w.heap.size) (hb : B ≤ b) (hm : B ≤ m) : Below B w w' := ⟨h.os, h.tape, h.output, h.size, fun k hk => h.block k (by omega) (by omega) (by omega)⟩
theorem Gw.mv {G : Nat → Prop} {w w' : World} {b m : Nat} (h : Gw w w' b m) (hn : ∀ j, G j → NB b m j) : Mv G G w w' := fun k hk hlt => ⟨h.block k hlt (hn k hk).1 (hn k hk).2, hk⟩
theorem Row.gw {w w' : World} {b m c : Nat} {t : TypeId} {xs : List Value} (h : Row w c t xs) (hg : Gw w w' b m) (h1 : c ≠ b) (h2 : c ≠ m) : Row w' c t xs := (hg.block c h.lt h1 h2).trans h
theorem Mv.boxG {G : Nat → Prop} {w w' : World} {q : Nat} (hg : w.grownBy w' (some q)) (hn : ¬ G q) : Mv G G w w' := fun j hj hlt => ⟨hg.block j hlt (fun e => hn (Option.some.inj e ▸ hj)), hj⟩
/-- Behind the loop: a window. -/
theorem IT.doneW {G : Nat → Prop} {w w' : World} {b m it : Nat} {low l2 : Int} {kn : List (Int × PSl)} {es0 : List MapEntry} {clock : Nat} (hn : ∀ j, G j → NB b m j) (hok : OkW l2 (cutW kn l2)) (hrow : Row w' b 69 [.int .i64 l2, .map (some m)]) {seen : Array Nat} {l : List (Int × Value)} (hE : En es0 clock) (hl : es0.map (fun e => (e.key, e.val)) = l.map (fun z => (kv z.1, z.2)))
    (hA : All2 (REn G w) l kn) (hi : IT w' m it es0 clock l2 seen) (hall : ∀ x ∈ es0.filter (pkS l2 seen), seen.contains x.born = true) (hg : Gw w w' b m) : Wnd G w' b m l2 (cutW kn l2) := by
  have hf := flt_end hall
  have hm := hi.map
  rw [hf] at hm
  refine ⟨hrow, hok, l.filter (fun z => decide (l2 < z.1)), ⟨_, clock, hm, ?_, ?_, ?_⟩, All2.filt (hA.mono fun z y hz => hz.mv hg.size (hg.mv hn)) (fun z y hz => by rw [hz.1])⟩
  · exact filt_ent hl (fun e z hk => by rw [hk, slV_kv])
  · intro e he
    have he : e ∈ es0.filter (fun e => decide (l2 < slV e.key)) := by simpa using he
    exact hE.old e (List.mem_filter.1 he).1
  · simpa using (List.filter_sublist.map _).nodup hE.one
set_option maxRecDepth 10000 in
set_option maxHeartbeats 2000000 in
theorem cutP_any {G : Nat → Prop} {b m : Nat} {low : Int} {kn : List (Int × PSl)} (w : World) (h : Wnd G w b m low kn) (hn : ∀ j, G j → NB b m j) (l2 : Int) :
    Calls Try.prog 23 #[.pointer (some ⟨b, 0, none⟩), .int .i64 l2] w fun e w' => e = .returned (.tuple #[]) ∧ Wnd G w' b m (stC low kn l2).1 (stC low kn l2).2 ∧ Gw w w' b m := by
  have c0 := h.row.cell (j := 0) rfl
  by_cases h1 : l2 ≤ low
  · have hst : stC low kn l2 = (low, kn) := by unfold stC; rw [if_pos (.inl h1)]
    have HST := (show Hid (stC low kn l2 = (low, kn)) from hst)
    clear hst
    have d1 : decide (l2 ≤ low) = true := by simpa using h1
    go_enter Try.func23, Try.ntmps23
    go_wp2_with fail
    refine bodyPost_ret (results_none rfl _ _ _) rfl ?_
    exact ⟨rfl, by rw [HST.out]; exact h, Gw.refl _ _ _⟩
  by_cases h2 : 1000000 < l2
  · have hst : stC low kn l2 = (low, kn) := by unfold stC; rw [if_pos (.inr h2)]
    have HST := (show Hid (stC low kn l2 = (low, kn)) from hst)
    clear hst
    have d1 : decide (l2 ≤ low) = false := by simpa using h1
    have d2 : decide (1000000 < l2) = true := by simpa using h2
    go_enter Try.func23, Try.ntmps23
    go_wp2_with fail
    refine bodyPost_ret (results_none rfl _ _ _) rfl ?_
    exact ⟨rfl, by rw [HST.out]; exact h, Gw.refl _ _ _⟩
  have HST := (show Hid (stC low kn l2 = (l2, cutW kn l2)) from (show stC low kn l2 = (l2, cutW kn l2) from by unfold stC; rw [if_neg (by omega)]))
  have hok : OkW l2 (cutW kn l2) := h.ok.cut (by omega) (by omega)
  have d1 : decide (l2 ≤ low) = false := by simpa using h1
  have d2 : decide (1000000 < l2) = false := by simpa using h2
  have hlt := h.lt
  have hne := h.ne
  obtain ⟨l, hl1, hl2⟩ := h.map
  have hkeys := keys_ofW hl2
  obtain ⟨es0, clock, hb0, hE, hle⟩ := hl1.ens (by rw [hkeys]; exact h.ok.dup)
  have hrow := h.row
  have HRG := (show Hid (∀ e ∈ es0, ∀ q, e.key = kv q → q ≤ low + 16) from fun e he q hq => by
    have hm : (e.key, e.val) ∈ es0.map (fun e => (e.key, e.val)) := List.mem_map.2 ⟨e, he, rfl⟩
    rw [hle] at hm
    obtain ⟨z, hz, hze⟩ := List.mem_map.1 hm
    have hzq : z.1 = q := by
      have := congrArg Prod.fst hze
      simp only at this
      rw [hq] at this
      injection this
    have hzk : z.1 ∈ keysW kn := by rw [← hkeys]; exact List.mem_map.2 ⟨z, hz, rfl⟩
    obtain ⟨y, hy, hy1⟩ := List.mem_map.1 hzk
    have := h.ok.rng y hy
    simp [inW] at this
    rw [hy1, hzq] at this
    exact this.2)
  have hlo := h.ok.lo
  have hl02 : 0 ≤ l2 ∧ l2 ≤ 1000000 := by omega
  clear h
  go_enter Try.func23, Try.ntmps23
  go_upto_region 2 with (refine wl_set rfl _ _ _ rfl b 0 (.int .i64 l2) rfl rfl _ _ hrow (show 0 < 2 by decide) (by kernel_rfl) rfl ?_; intro w1 r1 g1)
  have r1 : Row w1 b 69 [.int .i64 l2, .map (some m)] := r1.out
  have hb1 : w1.heap[m]? = some (.map es0.toArray clock) := (g1.block m hlt.2 (fun e => hne (Option.some.inj e).symm)).trans hb0
  have hm1 : m < w1.heap.size := (Array.getElem?_eq_some_iff.1 hb1).1
  have hrg := run_range_map (P := Try.prog) w1 67 _ _ m es0.toArray clock Try.underlying67 hb1
  obtain ⟨w2, hw2⟩ : ∃ w2, w2 = w1.alloc (.mapIter (some m) clock #[] clock) := ⟨_, rfl⟩
  have B2 : Below w1.heap.size w1 w2 := by rw [hw2]; exact below_alloc _ _
  have hi2 : IT w2 m w1.heap.size es0 clock l2 #[] := ⟨by rw [hw2, flt_start]; exact ((below_alloc w1 (.mapIter (some m) clock #[] clock)).block m hm1).trans hb1, by rw [hw2]; exact heap_alloc_new w1 _⟩
  have hG2 : Gw w w2 b m := (Gw.ofb g1).trans (Gw.bel B2)
  have r2 := r1.below B2
  have hbl : b < w1.heap.size := r1.lt
  have hszw : w.heap.size ≤ w1.heap.size := g1.size
  have c1 := r1.cell (j := 1) rfl
  clear c0 hrow hb1 g1
  go_wp2_with fail
  rw [← hw2]
  clear hw2 hrg c1 r1
  try go_simp
  go_loopw [4] (fun _ wr => ∃ seen, IT wr m w1.heap.size es0 clock l2 seen ∧ Gw w wr b m ∧ Row wr b 69 [.int .i64 l2, .map (some m)] ∧ w1.heap.size < wr.heap.size) (fun _ wr => wr.rangeLeft m w1.heap.size)
  case atStart => exact ⟨#[], hi2, hG2, r2, (Array.getElem?_eq_some_iff.1 hi2.it).1⟩
  case round =>
    obtain ⟨seen, hi, hg, hrow, hsz⟩ := hrel
    go_upto_region 4 with (at_next; refine wl_nextI rfl _ rfl hE hi rfl (fun hall => ?_) (fun e q v w3 he hk hleft hm3 hi3 hg3 hen => ?_); (replace hall := (show Hid _ from hall)); rotate_left; (replace he := (show Hid _ from he); replace hleft := (show Hid _ from hleft)); rotate_left)
    · go_end0
      have hfin := IT.doneW (low := low) hn hok hrow hE hle hl2 hi hall.out hg
      refine ⟨rfl, ?_, hg⟩
      rw [HST.out]
      exact hfin
    · have he := he.out
      have hleft := hleft.out
      have hrow3 := hrow.grown hg3 (fun e => by have := Option.some.inj e; omega)
      have c0 := hrow3.cell (j := 0) rfl
      have c1 := hrow3.cell (j := 1) rfl
      have hgw3 : Gw w w3 b m := hg.box hg3 hszw
      have he0 := (List.mem_filter.1 he).1
      have hqr := HRG.out e he0 q hk.out
      have hsh := left_shrinks _ _ _ hleft
      have hsz3 := hg3.size
      rw [show kv q = .int .i64 q from rfl] at hen ⊢
      by_cases hsl : q ≤ l2
      · have hin : inW l2 q = false := by unfold inW; rw [decide_eq_false (by omega : ¬ l2 < q)]; rfl
        have hI := inR_any w3 c0 hl02 q
        rw [hin] at hI
        obtain ⟨w4, hdel, hi4, hg4⟩ := IT.del (w := w3) hE hm3 hi3 he hk.out hsl
        rw [show kv q = .int .i64 q from rfl] at hdel
        have hgm : (leftOf (es0.filter (pkS l2 (seen.push e.born))).toArray (seen.push e.born)).size < (leftOf (es0.filter (pkS l2 seen)).toArray seen).size := by
          refine Nat.lt_of_le_of_lt (left_le _ ?_) hsh
          rw [← flt_struck hE he0 (by rw [hk.out, slV_kv]; exact hsl)]
          exact List.filter_sublist
        have hrow4 := hrow3.grown hg4 (fun e => hne (Option.some.inj e).symm)
        have hs4 := hg4.size
        clear hm3 hi3 he he0 hleft hsh hqr
        go_wp2_with (go_at_call 14; refine hI.mono ?_; rintro e w3 ⟨rfl, rfl⟩)
        go_roundw
        case rel => exact ⟨_, hi4, hgw3.trans (Gw.ofm hg4), hrow4, by omega⟩
        case measure =>
          rw [hi4.left, hi.left]
          exact hgm
      · have hin : inW l2 q = true := by unfold inW; rw [decide_eq_true (by omega : l2 < q), decide_eq_true (by omega : q ≤ l2 + 16)]; rfl
        have hI := inR_any w3 c0 hl02 q
        rw [hin] at hI
        have hst := flt_stays (seen := seen) hE he0 (s := l2) (by rw [hk.out, slV_kv]; exact hsl)
        have hi4 : IT w3 m w1.heap.size es0 clock l2 (seen.push e.born) := ⟨by rw [← hst]; exact hm3, hi3⟩
        have hgm : (leftOf (es0.filter (pkS l2 (seen.push e.born))).toArray (seen.push e.born)).size < (leftOf (es0.filter (pkS l2 seen)).toArray seen).size := by
          rw [← hst]
          exact hsh
        clear hm3 hi3 he he0 hleft hsh hqr hst
        go_wp2_with (go_at_call 14; refine hI.mono ?_; rintro e w3 ⟨rfl, rfl⟩)
        go_roundw
        case rel => exact ⟨_, hi4, hgw3, hrow3, by omega⟩
        case measure =>
          rw [hi4.left, hi.left]
          exact hgm
end Go.Proofs.Ytjloehkolnjnhaa
