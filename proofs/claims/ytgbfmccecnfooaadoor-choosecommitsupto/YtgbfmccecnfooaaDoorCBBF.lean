/- The walks over package msg: is there something in another field? -/
import Derived.Test.YtgbfmccecnfooaaDoorCBBB
import Derived.Lib.OthersKept
import Derived.Deep.LoopGhost
namespace Go.Proofs.YtgbfmccecnfooaaDoor
open Go.RowKit Oct
def allB : ByteArray := ⟨#[66, 83, 70, 84, 73, 67, 82, 79, 68, 71, 69, 86, 78, 80, 76]⟩
theorem allB_size : allB.size = 15 := rfl
theorem allB_at {q : Nat} (h : q < allB.size) : ((allB[q]'h).toNat : Int) = lt q ∧ (allB[q]'h).toNat < 128 := by
  have h' : q < 15 := h
  have e : ((allB[q]'h).toNat : Int) = lt q := by
    rcases lt15 h' with rfl | rfl | rfl | rfl | rfl | rfl | rfl | rfl | rfl | rfl | rfl | rfl | rfl | rfl | rfl <;> rfl
  have := lt_bd h'
  exact ⟨e, by omega⟩
theorem fsB_size (k : Int) : (fsB k).size = (fl k).length := by simp [fsB, ByteArray.size]
theorem fsB_at {k : Int} {q : Nat} (h : q < (fsB k).size) {i : Nat} (hi : (fl k)[q]? = some i) : (((fsB k)[q]'h).toNat : Int) = lt i ∧ ((fsB k)[q]'h).toNat < 128 := by
  have h15 : i < 15 := nice_lt (fl_nice k) i (List.mem_of_getElem? hi)
  have e : ((fsB k)[q]'h) = lb i := by
    obtain ⟨hq, e⟩ := List.getElem?_eq_some_iff.1 hi
    have h2 : ((fl k).map lb)[q]'(by simpa using hq) = lb i := by simp [e]
    exact h2
  have := lt_bd h15
  rw [e]
  exact ⟨rfl, by unfold lt at this; omega⟩
/-- Is there something in another field? -/
def hasO (k : Int) (m : PMsg) : Bool := (List.range 15).any fun i => !(fl k).contains i && !zF m i
theorem hasO_yes {k : Int} {m : PMsg} {q : Nat} (hq : q < 15) (h1 : (fl k).contains q = false) (h2 : zF m q = false) : hasO k m = true := by
  unfold hasO
  rw [List.any_eq_true]
  exact ⟨q, List.mem_range.2 hq, by rw [h1, h2]; rfl⟩
theorem hasO_no {k : Int} {m : PMsg} (h : ∀ i, i < 15 → ((fl k).contains i || zF m i) = true) : hasO k m = false := by
  unfold hasO
  rw [List.any_eq_false]
  intro i hi
  have := h i (List.mem_range.1 hi)
  cases h1 : (fl k).contains i <;> cases h2 : zF m i <;> simp_all
theorem iter_low {w : World} {k : Nat} {s : ByteArray} {p : Nat} {b : Nat} {t : TypeId} {xs : List Value} (h : Row w b t xs) (hk : b ≠ k) : Row (w.iterAt k s p) b t xs := (Lib.iterAt_other w k b s p hk).trans h
/-- One more letter was asked for. -/
def Asked (k : Int) (m : PMsg) (q : Nat) : Prop := ∀ i, i < q → ((fl k).contains i || zF m i) = true
theorem Asked.zero (k : Int) (m : PMsg) : Asked k m 0 := fun _ h => absurd h (Nat.not_lt_zero _)
theorem Asked.more {k : Int} {m : PMsg} {q : Nat} (h : Asked k m q) (h1 : ((fl k).contains q || zF m q) = true) : Asked k m (q + 1) := fun i hi => by
  rcases Nat.lt_or_ge i q with h2 | h2
  · exact h i h2
  · obtain rfl : i = q := by omega
    exact h1
set_option maxHeartbeats 2000000 in
/-- hasOther. -/
theorem hasOther_any (w : World) (m : PMsg) (s : SV) (hs : SOk Any w m s) (k : Int) : Calls Tryd.prog 67 #[.agg (mc m s).toArray, .string (fsB k)] w fun e w' => e = .returned (.bool (hasO k m)) ∧ Below w.heap.size w w' := by
  have hr0 := Row.new w 61 (mc m s)
  have hb0 := below_alloc w (.cells (mc m s).toArray 61)
  obtain ⟨w0, hw0⟩ : ∃ w0, w0 = w.alloc (.cells (mc m s).toArray 61) := ⟨_, rfl⟩
  have hsz : w0.heap.size = w.heap.size + 1 := by rw [hw0]; simp
  go_enter Tryd.func67, Tryd.ntmps67
  go_wp2_with fail
  rw [← hw0] at hr0 hb0 ⊢
  clear hw0
  have hit0 : (w0.iter allB 0).heap[w.heap.size + 1]? = some (.stringIter allB 0) := by rw [← hsz]; exact World.iter_heap w0 allB 0
  go_loopg [] 15 (fun gf wx => ∃ pos : Nat, wx.heap[w.heap.size + 1]? = some (.stringIter allB pos) ∧ Row wx w.heap.size 61 (mc m s) ∧ Below w.heap.size w wx ∧ pos + gf = 15 ∧ Asked k m pos)
  case atStart => exact ⟨0, hit0, hr0.below ((Below.refl _ w0).alloc (Nat.le_refl _) _), below_and hb0 (Nat.le_refl _) ((Below.refl _ w0).alloc (Nat.le_refl _) _), rfl, Asked.zero _ _⟩
  case round =>
    obtain ⟨pos, hit, hrow, hbw, hfu, hask⟩ := hrel
    by_cases hps : pos < allB.size
    · obtain ⟨g', rfl⟩ : ∃ g', gk = g' + 1 := ⟨gk - 1, by rw [allB_size] at hps; omega⟩
      have hq : pos < 15 := hps
      obtain ⟨hl1, hl2⟩ := allB_at hps
      have hnx : ∀ ty, (Instr.next (.pointer (some ⟨w.heap.size + 1, 0, none⟩)) true ty).run Tryd.prog wr = _ := fun ty => Lib.run_next_ascii_at wr (w.heap.size + 1) allB pos ty hit hps hl2
      rw [hl1] at hnx
      have hit2 := Lib.iterAt_heap wr (w.heap.size + 1) allB pos (pos + 1) hit
      have hbw2 := Lib.below_iterAt hbw (k := w.heap.size + 1) (by omega) allB (pos + 1)
      have hrow2 := iter_low (s := allB) (p := pos + 1) hrow (k := w.heap.size + 1) (by omega)
      obtain ⟨W, hWd⟩ : ∃ W, wr.iterAt (w.heap.size + 1) allB (pos + 1) = W := ⟨_, rfl⟩
      rw [hWd] at hnx hit2 hbw2 hrow2
      have hltW : w.heap.size + 1 < W.heap.size := (Array.getElem?_eq_some_iff.1 hit2).1
      have cH := has_any k pos hq W
      have cZ := isZero_any W m s (hs.below hbw2) hq
      clear hWd hl1 hl2
      cases hc : (fl k).contains pos with
      | true =>
        rw [hc] at cH
        have hn := hask.more (by rw [hc]; rfl)
        clear hc
        go_wp2_with (go_at_call 83; refine cH.mono ?_; rintro e W ⟨rfl, rfl⟩)
        go_roundg g'
        case measure => omega
        case rel => exact ⟨pos + 1, hit2, hrow2, hbw2, by omega, hn⟩
      | false =>
        rw [hc] at cH
        cases hz : zF m pos with
        | true =>
          rw [hz] at cZ
          have hn := hask.more (by rw [hz]; simp)
          clear hc hz
          go_wp2_with (first
            | (go_at_call 83; refine cH.mono ?_; rintro e W ⟨rfl, rfl⟩)
            | (refine wl_load_w (by rfl) _ _ rfl w.heap.size rfl _ _ hrow2 _ Tryd.underlying61 rfl (by kernel_rfl) ?_)
            | (go_at_call 84; refine cZ.mono ?_; rintro e W' ⟨rfl, hbc⟩))
          go_roundg g'
          case measure => omega
          case rel => exact ⟨pos + 1, (hbc.block _ hltW).trans hit2, hrow2.below hbc, hbw2.trans (hbc.mono hbw2.size), by omega, hn⟩
        | false =>
          rw [hz] at cZ
          have HN := (show Hid (hasO k m = true) from hasO_yes hq hc hz)
          clear hc hz
          go_wp2_with (first
            | (go_at_call 83; refine cH.mono ?_; rintro e W ⟨rfl, rfl⟩)
            | (refine wl_load_w (by rfl) _ _ rfl w.heap.size rfl _ _ hrow2 _ Tryd.underlying61 rfl (by kernel_rfl) ?_)
            | (go_at_call 84; refine cZ.mono ?_; rintro e W' ⟨rfl, hbc⟩))
          go_ret
          exact ⟨by rw [HN.out]; rfl, hbw2.trans (hbc.mono hbw2.size)⟩
    · have hnx : ∀ ty, (Instr.next (.pointer (some ⟨w.heap.size + 1, 0, none⟩)) true ty).run Tryd.prog wr = _ := fun ty => Lib.run_next_end_at wr (w.heap.size + 1) allB pos ty hit hps
      rw [allB_size] at hps
      have HN := (show Hid (hasO k m = false) from hasO_no fun i hi => hask i (by omega))
      go_wp2_with fail
      go_ret
      exact ⟨by rw [HN.out]; rfl, hbw⟩
end Go.Proofs.YtgbfmccecnfooaaDoor
