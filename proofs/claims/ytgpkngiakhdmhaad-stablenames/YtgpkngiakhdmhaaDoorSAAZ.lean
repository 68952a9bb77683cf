/- sha.block. -/
import Derived.Test.YtgpkngiakhdmhaaDoorSAAV
namespace Go.Proofs.YtgpkngiakhdmhaaDoor
open Go.RowKit Oct Sha
/-- The constants' variable. -/
def Tab (w : World) : Prop := ∀ t, t < 64 → w.cell? ⟨0, t, none⟩ = some (.int .u32 (wi (kk.getD t 0)))
theorem Tab.keep {w w' : World} (h : Tab w) (h0 : w'.heap[0]? = w.heap[0]?) : Tab w' := fun t ht => (World.cell?_of_block (w := w) (w' := w') (a := ⟨0, t, none⟩) h0).trans (h t ht)
theorem Tab.pos {w : World} (h : Tab w) : 0 < w.heap.size := World.block_lt_of_cell? w _ (h 0 (by decide))
theorem Tab.below {w w' : World} (h : Tab w) (hb : Below w.heap.size w w') : Tab w' := h.keep (hb.block 0 h.pos)
theorem Tab.grown {w w' : World} {r : Option Nat} (h : Tab w) (hg : w.grownBy w' r) (hr : r ≠ some 0) : Tab w' := h.keep (hg.block 0 h.pos (fun e => hr e.symm))
theorem run_ixv {t e : TypeId} {n : Nat} (hu : Tryd.prog.underlying t = some (.array n e)) (he : (Tryd.prog.info? e).map (·.size) = some 1) (hg : Tryd.prog.underlying e = some (.int .u32)) (ws : List (BitVec 32)) (i : Nat) (hi : i < n) (hl : ws.length = n) (u : World) :
    (Instr.index t (.agg (ws.map wv).toArray) (.int .i64 (i : Int))).run Tryd.prog u = .ok (.int .u32 (wi (ws.getD i 0))) u := by
  have h : 0 ≤ (i : Int) ∧ (i : Int) < (n : Int) := by omega
  cases hq : Tryd.prog.info? e with
  | none => simp [hq] at he
  | some i0 =>
    simp only [hq, Option.map_some, Option.some.injEq] at he
    have hx : i < ws.length := by omega
    simp [Instr.index, run_underlying hu, asIntOf, h, hi, part, isAgg, run_underlying hg, sizeOf, typeInfo, hq, he, wv, List.getElem?_eq_getElem hx]
theorem Tryd.und38 : Tryd.prog.underlying 118 = some (.array 8 93) := by kernel_rfl
theorem run_ix8 (b i : Nat) (hi : i < 8) (u : World) : (Instr.indexAt 118 (.pointer (some ⟨b, 0, none⟩)) (.int .i64 (i : Int))).run Tryd.prog u = .ok (.pointer (some ⟨b, i, none⟩)) u := by
  have ht : Tryd.prog.underlying 118 = some (.array (Tryd.prog.arrayLen 118) (Tryd.prog.elem 118)) := by kernel_rfl
  have hn : Tryd.prog.arrayLen 118 = 8 := by kernel_rfl
  have hs : (sizeOf (Tryd.prog.elem 118)).run Tryd.prog u = .ok 1 u := by
    rw [show Tryd.prog.elem 118 = 93 by kernel_rfl]
    cases hq : Tryd.prog.info? 93 with
    | none => have := Tryd.info34; simp [hq] at this
    | some i0 =>
      have h1 := Tryd.info34
      simp only [hq, Option.map_some, Option.some.injEq] at h1
      simp [sizeOf, typeInfo, hq, h1]
  rw [run_indexAt_array u 118 _ .i64 i ht, hn, if_pos (by omega), hs]
  simp only [Result.andThen, Addr.add_mid]
  simp
/-- The first k words of a state raised by those of another. -/
def raised (s v : St) (k : Nat) : List (BitVec 32) := (s.add v).ws.take k ++ s.ws.drop k
theorem raised_at (s v : St) (k : Nat) (hk : k < 8) : (raised s v k)[k]? = some (s.ws.getD k 0) := by
  rcases (by omega : k = 0 ∨ k = 1 ∨ k = 2 ∨ k = 3 ∨ k = 4 ∨ k = 5 ∨ k = 6 ∨ k = 7) with rfl | rfl | rfl | rfl | rfl | rfl | rfl | rfl <;> rfl
theorem raised_set (s v : St) (k : Nat) (hk : k < 8) : (raised s v k).set k (s.ws.getD k 0 + v.ws.getD k 0) = raised s v (k + 1) := by
  rcases (by omega : k = 0 ∨ k = 1 ∨ k = 2 ∨ k = 3 ∨ k = 4 ∨ k = 5 ∨ k = 6 ∨ k = 7) with rfl | rfl | rfl | rfl | rfl | rfl | rfl | rfl <;> rfl
theorem raised_len (s v : St) (k : Nat) (hk : k ≤ 8) : (raised s v k).length = 8 := by
  simp only [raised, List.length_append, List.length_take, List.length_drop, St.ws_len]
  omega
theorem raised_set' (s v : St) (k : Nat) (hk : k < 8) (tl : List Value) : ((raised s v k).map wv ++ tl).set k (.int .u32 (wi (s.ws.getD k 0 + v.ws.getD k 0))) = (raised s v (k + 1)).map wv ++ tl := by
  rw [List.set_append_left _ _ (by rw [List.length_map, raised_len _ _ _ (by omega)]; exact hk), ← raised_set s v k hk, List.map_set]
  rfl
set_option maxHeartbeats 1000000 in
theorem block_any (w : World) (b : Nat) (t : TypeId) (s : St) (tl : List Value) (hr : Row w b t (s.vs ++ tl)) (ht : Tab w) (cb co : Nat) (p : List Int) (hp : p.length = 64) (hb : Byt p) (hbt : Bts w cb co p) (hcb : cb < w.heap.size) :
    Calls Tryd.prog 83 #[.pointer (some ⟨b, 0, none⟩), .pointer (some ⟨cb, co, none⟩)] w fun e w' => e = .returned (.tuple #[]) ∧ Row w' b t ((blk s p).vs ++ tl) ∧ w.grownBy w' (some b) := by
  have hblt := hr.lt
  have c0 : w.cell? ⟨b, 0, none⟩ = some (.int .u32 (wi s.a)) := hr.cell rfl
  have c1 : w.cell? ⟨b, 1, none⟩ = some (.int .u32 (wi s.b)) := hr.cell rfl
  have c2 : w.cell? ⟨b, 2, none⟩ = some (.int .u32 (wi s.c)) := hr.cell rfl
  have c3 : w.cell? ⟨b, 3, none⟩ = some (.int .u32 (wi s.d)) := hr.cell rfl
  have c4 : w.cell? ⟨b, 4, none⟩ = some (.int .u32 (wi s.e)) := hr.cell rfl
  have c5 : w.cell? ⟨b, 5, none⟩ = some (.int .u32 (wi s.f)) := hr.cell rfl
  have c6 : w.cell? ⟨b, 6, none⟩ = some (.int .u32 (wi s.g)) := hr.cell rfl
  have c7 : w.cell? ⟨b, 7, none⟩ = some (.int .u32 (wi s.h)) := hr.cell rfl
  obtain ⟨ws, hws⟩ : ∃ ws, ws = sch p 64 := ⟨_, rfl⟩
  obtain ⟨V, hV⟩ : ∃ V, V = rnd ws s 64 := ⟨_, rfl⟩
  have hwl : ws.length = 64 := by rw [hws, sch_len]
  rw [show blk s p = s.add V by rw [hV, hws]; rfl]
  have HSP := (show Hid (∀ u : World, Bts u cb co p → cb < u.heap.size → Calls Tryd.prog 84 #[.pointer (some ⟨cb, co, none⟩)] u fun e w' => e = .returned (.agg (ws.map wv).toArray) ∧ Below u.heap.size u w') by
    rw [hws]
    exact fun u h1 h2 => spread_any u cb co p hp hb h1 h2)
  have HL := (show Hid (ws.length = 64) from hwl)
  have HV := (show Hid (V = rnd ws s 64) from hV)
  clear hwl hws hV
  go_enter Tryd.func83, Tryd.ntmps83
  go_wp2_with fail
  refine (HSP.out _ (hbt.below hcb (below_alloc w _)) (by simp; omega)).mono ?_
  rintro e w1 ⟨rfl, hb1⟩
  have hrN : Row w1 w.heap.size 118 s.vs := (Row.new w 118 s.vs).below hb1
  have hb1' := below_and (below_alloc w _) (Nat.le_refl _) hb1
  clear hb1 c0 c1 c2 c3 c4 c5 c6 c7 hbt hp hb hcb HSP
  go_wp2_with fail
  go_loopw [14] (fun i wr => ∃ k : Nat, k ≤ 64 ∧ i = .int .i64 k ∧ Row wr w.heap.size 118 (rnd ws s k).vs ∧ Below w.heap.size w wr) (fun i _ => 64 - (intOf i).toNat)
  case atStart => exact ⟨0, by omega, rfl, hrN, hb1'⟩
  case round =>
    obtain ⟨k, hk, rfl, hrk, hbel⟩ := hrel
    by_cases hk64 : k < 64
    · have hix : ∀ u : World, (Instr.index 129 (.agg (ws.map wv).toArray) (.int .i64 (k : Int))).run Tryd.prog u = .ok (.int .u32 (wi (ws.getD k 0))) u := run_ixv Tryd.und45 Tryd.info34 Tryd.underlying93 ws k hk64 HL.out
      have hik : ∀ u : World, (Instr.indexAt 129 (.pointer (some ⟨0, 0, none⟩)) (.int .i64 (k : Int))).run Tryd.prog u = .ok (.pointer (some ⟨0, k, none⟩)) u := run_ix 0 k hk64
      have hck : wr.cell? ⟨0, k, none⟩ = some (.int .u32 (wi (kk.getD k 0))) := ht.below hbel k hk64
      go_wp2_with fail
      rw [add_wi]
      refine (step_any wr w.heap.size 118 (rnd ws s k) [] (kk.getD k 0 + ws.getD k 0) (by rw [List.append_nil]; exact hrk)).mono ?_
      rintro e w2 ⟨rfl, hr2, hg2⟩
      rw [List.append_nil] at hr2
      have HR2 := (show Hid (Row w2 w.heap.size 118 (rnd ws s (k + 1)).vs) from hr2)
      have hb2 := hbel.trans (grown_below hg2 hbel.size (fun k hk => by cases hk; exact Nat.le_refl _))
      clear hr2 hg2 hrk hck hbel
      go_wp2_with fail
      go_roundw
      case rel => exact ⟨k + 1, by omega, by go_num, HR2, hb2⟩
      case measure => simp [intOf]; omega
    · have hrV : Row wr w.heap.size 118 V.vs := by rw [HV.out, show 64 = k by omega]; exact hrk
      have c0 : wr.cell? ⟨w.heap.size, 0, none⟩ = some (.int .u32 (wi V.a)) := hrV.cell rfl
      have c1 : wr.cell? ⟨w.heap.size, 1, none⟩ = some (.int .u32 (wi V.b)) := hrV.cell rfl
      have c2 : wr.cell? ⟨w.heap.size, 2, none⟩ = some (.int .u32 (wi V.c)) := hrV.cell rfl
      have c3 : wr.cell? ⟨w.heap.size, 3, none⟩ = some (.int .u32 (wi V.d)) := hrV.cell rfl
      have c4 : wr.cell? ⟨w.heap.size, 4, none⟩ = some (.int .u32 (wi V.e)) := hrV.cell rfl
      have c5 : wr.cell? ⟨w.heap.size, 5, none⟩ = some (.int .u32 (wi V.f)) := hrV.cell rfl
      have c6 : wr.cell? ⟨w.heap.size, 6, none⟩ = some (.int .u32 (wi V.g)) := hrV.cell rfl
      have c7 : wr.cell? ⟨w.heap.size, 7, none⟩ = some (.int .u32 (wi V.h)) := hrV.cell rfl
      have hrb := hr.below hbel
      have hgb := grown_of_below hbel (some b)
      clear hrk hrV HV HL ht hb1' hrN
      go_wp2_with fail
      go_loopw [26] (fun i wr => ∃ j : Nat, j ≤ 8 ∧ i = .int .i64 j ∧ Row wr b t ((raised s V j).map wv ++ tl) ∧ w.grownBy wr (some b)) (fun i _ => 8 - (intOf i).toNat)
      case atStart => exact ⟨0, by omega, rfl, hrb, hgb⟩
      case round =>
        clear hrb hgb c0 c1 c2 c3 c4 c5 c6 c7 hr hbel
        obtain ⟨j, hj, rfl, hrj, hgj⟩ := hrel
        by_cases hj8 : j < 8
        · have hix : ∀ u : World, (Instr.index 118 (.agg #[.int .u32 (wi V.a), .int .u32 (wi V.b), .int .u32 (wi V.c), .int .u32 (wi V.d), .int .u32 (wi V.e), .int .u32 (wi V.f), .int .u32 (wi V.g), .int .u32 (wi V.h)]) (.int .i64 (j : Int))).run Tryd.prog u = .ok (.int .u32 (wi (V.ws.getD j 0))) u := run_ixv Tryd.und38 Tryd.info34 Tryd.underlying93 V.ws j hj8 rfl
          have hik : ∀ u : World, (Instr.indexAt 118 (.pointer (some ⟨b, 0, none⟩)) (.int .i64 (j : Int))).run Tryd.prog u = .ok (.pointer (some ⟨b, j, none⟩)) u := run_ix8 b j hj8
          have hcj : wr.cell? ⟨b, j, none⟩ = some (.int .u32 (wi (s.ws.getD j 0))) := hrj.cell (by rw [List.getElem?_append_left (by rw [List.length_map, raised_len _ _ _ (by omega)]; exact hj8), List.getElem?_map, raised_at s V j hj8]; rfl)
          have hfj := hrj.frozen j
          go_wp2_with fail
          go_region
          go_wp2_with fail
          go_roundw
          case rel =>
            rw [add_wi]
            exact ⟨j + 1, by omega, by go_num, raised_set' s V j hj8 tl ▸ (hrj.set j _).drew, grown_to_drew (grown_trans hgj (grown_set _ _ _ _) (.inl rfl))⟩
          case measure => simp [intOf]; omega
        · have hrf : Row wr b t ((s.add V).vs ++ tl) := by
            rw [show j = 8 by omega] at hrj
            exact hrj
          go_wp2_with fail
          go_end0
          exact ⟨rfl, hrf, hgj⟩
end Go.Proofs.YtgpkngiakhdmhaaDoor
