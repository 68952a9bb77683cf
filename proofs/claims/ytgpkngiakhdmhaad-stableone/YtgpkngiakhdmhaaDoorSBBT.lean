/- stable: Cut. -/
import Derived.Test.YtgpkngiakhdmhaaDoorSBBS
set_option linter.unusedSimpArgs false
set_option linter.unusedVariables false
namespace Go.Proofs.YtgpkngiakhdmhaaDoor
open Go.RowKit Oct Stb MI Bal Sha
def mx (a b : Int) : Int := if a < b then b else a
theorem mx_ge (a b : Int) : a ≤ mx a b ∧ b ≤ mx a b := by unfold mx; split <;> omega
theorem cut_ent (tl : PTl) (c : Int) : entT (cutT tl c) = (entT tl).filter (fun z => decide (c < z.1)) := by
  unfold entT cutT
  rw [List.filter_map]
  rfl
/-- No text lies in a tally's own cells. -/
theorem rt_notRow {G : Nat → Prop} {w : World} {v : Value} {l : List Int} {b m : Nat} {n cut : Int} {t : TypeId} (h : RT G w v l) (hx : l ≠ []) (hb : v.ownBlock = some b) (hr : Row w b t [.int .i64 n, .int .i64 cut, .map (some m)]) : False := by
  obtain ⟨ao, cap, rfl, h1, h2, h3, h4⟩ := h.1.2
  cases ao with
  | none => simp [Value.ownBlock] at hb
  | some a =>
    obtain ⟨x, xs, rfl⟩ := List.exists_cons_of_ne_nil hx
    have h5 := h4 a rfl 0 _ rfl
    have h7 : a.block = b := by simpa [Value.ownBlock] using hb
    unfold Row at hr
    have h6 : a.add 0 = a := rfl
    rw [h6] at h5
    unfold World.cell? at h5
    rw [h7, hr] at h5
    simp only at h5
    split at h5
    · cases h5
    · match hq : a.off with
      | 0 => rw [hq] at h5; simp at h5
      | 1 => rw [hq] at h5; simp at h5
      | 2 => rw [hq] at h5; simp at h5
      | q + 3 => rw [hq] at h5; simp at h5
/-- Behind the loop: a tally. -/
theorem IT.doneT {w w' : World} {b m it : Nat} {n cut l2 : Int} {tl : PTl} (h : Tly w b m n cut tl) (hc : cut ≤ l2) (hrow : Row w' b 56 [.int .i64 n, .int .i64 l2, .map (some m)]) {es0 : List MapEntry} {clock : Nat} {seen : Array Nat} (hE : En es0 clock) (hl : es0.map (fun e => (e.key, e.val)) = (entT tl).map (fun z => (ki z.1, z.2)))
    (hi : IT w' m it es0 clock l2 seen) (hall : ∀ x ∈ es0.filter (pkS l2 seen), seen.contains x.born = true) (hg : Gs (fun k => k = b ∨ k = m) w w') : Tly w' b m n l2 (cutT tl l2) := by
  have hf := flt_end hall
  have hm := hi.map
  rw [hf] at hm
  have hsub : ∀ y ∈ cutT tl l2, y ∈ tl := fun y hy => (List.mem_filter.1 hy).1
  have hbb : b ≠ m := fun e => by
    have h2 := h.row.cell (j := 0) rfl
    rw [e, h.map.nocell 0] at h2
    cases h2
  refine ⟨hrow, h.ok.cut hc, ?_, fun y hy => ?_, ?_⟩
  · rw [cut_ent]
    refine ⟨_, clock, hm, ?_, ?_, ?_⟩
    · exact filt_ent hl (fun e z hk => by rw [hk, slV_kv])
    · intro e he
      have he : e ∈ es0.filter (fun e => decide (l2 < slV e.key)) := by simpa using he
      exact hE.old e (List.mem_filter.1 he).1
    · simpa using (List.filter_sublist.map _).nodup hE.one
  · have hy' := hsub y hy
    have hyb : y.2.1 ∈ blkT tl := List.mem_map.2 ⟨y, hy', rfl⟩
    obtain ⟨l, hl1, hl2⟩ := h.ins y hy'
    have hne : y.2.1 ≠ b ∧ y.2.1 ≠ m := by
      refine ⟨fun e => ?_, fun e => (List.nodup_cons.1 h.dup).1 (e ▸ hyb)⟩
      have h2 := h.row.cell (j := 0) rfl
      rw [← e, hl1.nocell 0] at h2
      cases h2
    refine ⟨l, ?_, hl2.mono fun z c hz => ?_⟩
    · obtain ⟨es, ck, h3, h4⟩ := hl1
      exact ⟨es, ck, (hg.block _ (Array.getElem?_eq_some_iff.1 h3).1 (fun hS => by rcases hS with hS | hS; exact hne.1 hS; exact hne.2 hS)).trans h3, h4⟩
    · obtain ⟨h5, sg, h6, h7⟩ := hz
      refine ⟨h5, sg, h6, ?_⟩
      have hsgb : RT (fun k => k ≠ b ∧ NMap w k) w sg c.2.2 := by
        exact ⟨h7.1, fun hx k hk => ⟨fun e => rt_notRow h7 hx (e ▸ hk) h.row, h7.nmap.2 hx k hk⟩⟩
      exact hsgb.mv (fun k hk hlt => ⟨hg.block k hlt (fun hS => by
        rcases hS with hS | hS
        · exact hk.1 hS
        · rw [hS] at hk
          exact h.map.isMap hk.2), trivial⟩)
  · have hs : (cutT tl l2).Sublist tl := List.filter_sublist
    have h1 : (blkT (cutT tl l2)).Sublist (blkT tl) := hs.map _
    exact List.Sublist.nodup (List.Sublist.cons_cons m h1) h.dup
set_option maxRecDepth 10000 in
set_option maxHeartbeats 4000000 in
theorem cutT_any {b m : Nat} {n cut : Int} {tl : PTl} (w : World) (h : Tly w b m n cut tl) (c : Int) :
    Calls Tryd.prog 19 #[.pointer (some ⟨b, 0, none⟩), .int .i64 c] w fun e w' => e = .returned (.tuple #[]) ∧ Tly w' b m n (mx cut c) (cutT tl (mx cut c)) ∧ Gs (fun k => k = b ∨ k = m) w w' := by
  have c1 := h.row.cell (j := 1) rfl
  have hmx := mx_ge cut c
  have hmax : ∀ ty u, (Builtin.max_ #[3, 3] ty #[.int .i64 cut, .int .i64 c]).run Tryd.prog u = .ok (.int .i64 (mx cut c)) u := fun ty u => by
    unfold mx
    by_cases hcc : cut < c <;> simp [Builtin.max_, Builtin.max2, hcc]
  obtain ⟨l2, hl2⟩ : ∃ l2, l2 = mx cut c := ⟨_, rfl⟩
  rw [← hl2] at hmx hmax ⊢
  clear hl2
  have hbb : b ≠ m := fun e => by
    have h2 := h.row.cell (j := 0) rfl
    rw [e, h.map.nocell 0] at h2
    cases h2
  obtain ⟨es0, clock, hb0, hE, hle⟩ := h.map.ens (by rw [ent_keysT]; exact h.ok.dup)
  have hrow := h.row
  have hml := h.map.lt
  have HE := (show Hid (En es0 clock ∧ es0.map (fun e => (e.key, e.val)) = (entT tl).map (fun z => (ki z.1, z.2)) ∧ Tly w b m n cut tl ∧ cut ≤ l2) from ⟨hE, hle, h, hmx.1⟩)
  clear h hmx hE hle
  go_enter Tryd.func19, Tryd.ntmps19
  go_upto_region 1 with (refine wl_set rfl _ _ _ rfl b 1 (.int .i64 l2) rfl rfl _ _ hrow (show 1 < 3 by decide) (by kernel_rfl) rfl ?_; intro w1 r1 g1)
  have r1 : Row w1 b 56 [.int .i64 n, .int .i64 l2, .map (some m)] := r1.out
  have hb1 : w1.heap[m]? = some (.map es0.toArray clock) := (g1.block m hml (fun e => hbb (Option.some.inj e).symm)).trans hb0
  have hm1 : m < w1.heap.size := (Array.getElem?_eq_some_iff.1 hb1).1
  have hrg := run_range_map (P := Tryd.prog) w1 54 _ _ m es0.toArray clock Tryd.underlying54 hb1
  obtain ⟨w2, hw2⟩ : ∃ w2, w2 = w1.alloc (.mapIter (some m) clock #[] clock) := ⟨_, rfl⟩
  have B2 : Below w1.heap.size w1 w2 := by rw [hw2]; exact below_alloc _ _
  have hi2 : IT w2 m w1.heap.size es0 clock l2 #[] := ⟨by rw [hw2, flt_start]; exact ((below_alloc w1 (.mapIter (some m) clock #[] clock)).block m hm1).trans hb1, by rw [hw2]; exact heap_alloc_new w1 _⟩
  have hG2 : Gs (fun k => k = b ∨ k = m) w w2 := (Gs.of (S := fun k => k = b ∨ k = m) g1 (.inr (.inl rfl))).trans (Gs.bel (S := fun k => k = b ∨ k = m) B2) (fun _ _ h => h)
  have r2 := r1.below B2
  have hbl : b < w1.heap.size := r1.lt
  have hszw : w.heap.size ≤ w1.heap.size := g1.size
  have c1 := r1.cell (j := 1) rfl
  have c2 := r1.cell (j := 2) rfl
  clear hrow hb1 g1 hb0 hmax
  go_upto_region 2 with fail
  rw [← hw2]
  clear hw2 hrg c1 r1 c2
  try go_simp
  go_loopw [4] (fun _ wr => ∃ seen, IT wr m w1.heap.size es0 clock l2 seen ∧ Gs (fun k => k = b ∨ k = m) w wr ∧ Row wr b 56 [.int .i64 n, .int .i64 l2, .map (some m)] ∧ w1.heap.size < wr.heap.size) (fun _ wr => wr.rangeLeft m w1.heap.size)
  case atStart => exact ⟨#[], hi2, hG2, r2, (Array.getElem?_eq_some_iff.1 hi2.it).1⟩
  case round =>
    clear hi2 hG2 r2 B2
    obtain ⟨seen, hi, hg, hrow, hsz⟩ := hrel
    go_upto_region 3 with (at_next; refine wl_nextI rfl _ rfl HE.out.1 hi rfl (fun hall => ?_) (fun e q v w3 he hk hleft hm3 hi3 hg3 hen => ?_); (replace hall := (show Hid _ from hall)); rotate_left; (replace he := (show Hid _ from he); replace hleft := (show Hid _ from hleft)); rotate_left)
    · go_end0
      exact ⟨rfl, IT.doneT HE.out.2.2.1 HE.out.2.2.2 hrow HE.out.1 HE.out.2.1 hi hall.out hg, hg⟩
    · have he := he.out
      have hleft := hleft.out
      have hrow3 := hrow.grown hg3 (fun e => by have := Option.some.inj e; omega)
      have c0 := hrow3.cell (j := 1) rfl
      have c1 := hrow3.cell (j := 2) rfl
      have hgw3 : Gs (fun k => k = b ∨ k = m) w w3 := hg.trans (S' := fun k => k = w1.heap.size) (Gs.of hg3 (.inr rfl)) (fun k hk e => by omega)
      have he0 := (List.mem_filter.1 he).1
      have hsh := left_shrinks _ _ _ hleft
      have hsz3 := hg3.size
      rw [show ki q = .int .i64 q from rfl] at hen ⊢
      by_cases hsl : q ≤ l2
      · have hd : decide (q ≤ l2) = true := decide_eq_true hsl
        obtain ⟨w4, hdel, hi4, hg4⟩ := IT.del Tryd.underlying54 (w := w3) HE.out.1 hm3 hi3 he hk.out hsl
        rw [show ki q = .int .i64 q from rfl] at hdel
        have hgm : (leftOf (es0.filter (pkS l2 (seen.push e.born))).toArray (seen.push e.born)).size < (leftOf (es0.filter (pkS l2 seen)).toArray seen).size := by
          refine Nat.lt_of_le_of_lt (left_le _ ?_) hsh
          rw [← flt_struck HE.out.1 he0 (by rw [hk.out, slV_kv]; exact hsl)]
          exact List.filter_sublist
        have hrow4 := hrow3.grown hg4 (fun e => hbb (Option.some.inj e).symm)
        have hs4 := hg4.size
        clear hm3 hi3 he he0 hleft hsh
        go_wp2_with fail
        go_roundw
        case rel => exact ⟨_, hi4, hgw3.trans (Gs.of (S := fun k => k = b ∨ k = m) hg4 (.inr (.inr rfl))) (fun _ _ h => h), hrow4, by omega⟩
        case measure =>
          rw [hi4.left, hi.left]
          exact hgm
      · have hd : decide (q ≤ l2) = false := decide_eq_false hsl
        have hst := flt_stays (seen := seen) HE.out.1 he0 (s := l2) (by rw [hk.out, slV_kv]; exact hsl)
        have hi4 : IT w3 m w1.heap.size es0 clock l2 (seen.push e.born) := ⟨by rw [← hst]; exact hm3, hi3⟩
        have hgm : (leftOf (es0.filter (pkS l2 (seen.push e.born))).toArray (seen.push e.born)).size < (leftOf (es0.filter (pkS l2 seen)).toArray seen).size := by
          rw [← hst]
          exact hsh
        clear hm3 hi3 he he0 hleft hsh hst
        go_wp2_with fail
        go_roundw
        case rel => exact ⟨_, hi4, hgw3, hrow3, by omega⟩
        case measure =>
          rw [hi4.left, hi.left]
          exact hgm
end Go.Proofs.YtgpkngiakhdmhaaDoor
